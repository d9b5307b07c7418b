/-
  Every key that words tell fits: as SearchFit, for shorter texts; all o, and more.
-/
import Derived.Test.YtogigccbnohjjaaGreatDoorMSfHead
import Derived.Test.YtogigccbnohjjaaGreatDoorBpSfFNot
namespace Go.Proofs.YtogigccbnohjjaaGreatDoor
open Go.RowKit Go.Proofs.Aid Go.Proofs.Sq Go.Proofs.Sr
def AllM (code : Int) (name text : Sr.Tx) : Prop := ((code = 3 ∨ code = 4 ∨ code = 5) ∧ name.length ≤ 900000 ∧ text.length ≤ 900000) ∨ FlagL code name text
theorem fitm_leaf {f : Nat} {code n : Int} {name text : Sr.Tx} {set : List (Nat × Nat)} (h : AllM code name text) (hs : set.length ≤ 1000) : Fit AllM (f + 1) (.mk code name text n set []) := ⟨hs, by simp, Or.inl h⟩
theorem fitm_flag {f : Nat} (n : Sr.Tx) : Fit AllM (f + 1) (flagK n) := fitm_leaf (Or.inr (Or.inl rfl)) (by simp)
theorem fitm_not {f : Nat} {k : Ky} (h : Fit AllM f k) : Fit AllM (f + 1) (notK k) := ⟨by simp, by simp, Or.inr ⟨Or.inl ⟨rfl, by simp⟩, fun q hq => by obtain rfl := List.mem_singleton.1 hq; exact h⟩⟩
theorem fitm_or {f : Nat} {a b : Ky} (ha : Fit AllM f a) (hb : Fit AllM f b) : Fit AllM (f + 1) (.mk 14 [] [] 0 [] [a, b]) := ⟨by simp, by simp, Or.inr ⟨Or.inr (Or.inl rfl), fun q hq => by
 rcases List.mem_cons.1 hq with rfl | hq
 ·exact ha
 ·obtain rfl := List.mem_singleton.1 hq; exact hb⟩⟩
theorem fitm_join {f : Nat} {ks : List Ky} (h : ∀ k ∈ ks, Fit AllM f k) (hl : ks.length ≤ 1000) (hn : ks ≠ []) : Fit AllM (f + 1) (joinK ks) := by
 unfold joinK
 split
 ·exact (h _ (by simp)).step
 ·exact ⟨by simp, hl, Or.inr ⟨Or.inr (Or.inr rfl), h⟩⟩
def FitM (B D : Nat) (g : List Ar → Nat → Rs Ky) : Prop := ∀ l c k l' c', g l c = .ok k l' c' → Sz B l → Fit AllM D k ∧ Sz B l'
theorem more_fitm {B D : Nat} {g : List Ar → Nat → Rs Ky} (hG : FitM B D g) : ∀ (n : Nat) (acc : List Ky) (l : List Ar) (c : Nat) (ks : List Ky) (l' : List Ar) (c' : Nat), (∀ k ∈ acc, Fit AllM D k) → acc ≠ [] → Sz B l → moreF g n acc l c = .ok ks l' c' → (∀ k ∈ ks, Fit AllM D k) ∧ ks ≠ [] ∧ ks.length ≤ acc.length + n ∧ Sz B l'
 | n, acc, [], c, ks, l', c', ha, hn, hl, h => by
  have h : Rs.ok acc [] c = .ok ks l' c' := by cases n <;> exact h
  cases h
  exact ⟨ha, hn, by omega, hl⟩
 | 0, acc, a :: r, c, ks, l', c', ha, hn, hl, h => by cases h
 | n + 1, acc, a :: r, c, ks, l', c', ha, hn, hl, h => by
  rw [moreF] at h
  obtain ⟨k, l1, c1, h1, h2⟩ := rs_then h
  obtain ⟨i1, i2⟩ := hG _ _ _ _ _ h1 hl
  obtain ⟨j1, j2, j3, j4⟩ := more_fitm hG n _ _ _ _ _ _ (fun q hq => by
   rcases List.mem_append.1 hq with hq | hq
   ·exact ha q hq
   ·obtain rfl := List.mem_singleton.1 hq; exact i1) (by simp) i2 h2
  exact ⟨j1, j2, by simp at j3; omega, j4⟩
theorem keys_fitm {B D : Nat} {g : List Ar → Nat → Rs Ky} (hG : FitM B D g) : FitM B (D + 1) (keysF g) := fun l c k l' c' h hl => by
 unfold keysF at h
 obtain ⟨ks, h0, rfl⟩ := rs_map h
 obtain ⟨k1, l1, c1, h1, h2⟩ := rs_then h0
 obtain ⟨i1, i2⟩ := hG _ _ _ _ _ h1 hl
 obtain ⟨j1, j2, j3, j4⟩ := more_fitm hG _ _ _ _ _ _ _ (fun q hq => by obtain rfl := List.mem_singleton.1 hq; exact i1) (by simp) i2 h2
 exact ⟨fitm_join j1 (by simp at j3; omega) j2, j4⟩
theorem wordK_fitm {B D : Nat} (hB : B ≤ 900000) {g : List Ar → Nat → Rs Ky} (hG : FitM B D g) {w : Sr.Tx} {l l' : List Ar} {c c' : Nat} {k : Ky} (hw : w.length ≤ B) (hl : Sz B l) (h : wordK g w l c = .ok k l' c') : Fit AllM (D + 2) k ∧ Sz B l' := by
 rw [wordK] at h
 by_cases p0 : Hd.great w = wAll
 ·rw [if_pos p0] at h; cases h; exact ⟨fitm_leaf (Or.inr (Or.inr (Or.inl rfl))) (by simp), hl⟩
 rw [if_neg p0] at h
 by_cases p1 : wSys.contains (Hd.great w) = true
 ·rw [if_pos p1] at h; obtain ⟨⟨n, rfl⟩, rfl⟩ := flag_rest h; exact ⟨fitm_flag n, hl⟩
 rw [if_neg p1] at h
 by_cases p2 : wUn.contains (Hd.great w) = true
 ·rw [if_pos p2] at h; obtain ⟨_, h0, rfl⟩ := rs_map h; obtain ⟨⟨n, rfl⟩, rfl⟩ := flag_rest h0; exact ⟨fitm_not (fitm_flag n), hl⟩
 rw [if_neg p2] at h
 by_cases p3 : Hd.great w = wKeyword
 ·rw [if_pos p3] at h; obtain ⟨_, _, _, h1, h2⟩ := rs_then h; obtain ⟨⟨n, rfl⟩, rfl⟩ := flag_rest h2; exact ⟨fitm_flag n, (word_sz h1 hl).2⟩
 rw [if_neg p3] at h
 by_cases p4 : Hd.great w = 85 :: 78 :: wKeyword
 ·rw [if_pos p4] at h; obtain ⟨_, h0, rfl⟩ := rs_map h; obtain ⟨_, _, _, h1, h2⟩ := rs_then h0; obtain ⟨⟨n, rfl⟩, rfl⟩ := flag_rest h2; exact ⟨fitm_not (fitm_flag n), (word_sz h1 hl).2⟩
 rw [if_neg p4] at h
 by_cases p5 : wFields.contains (Hd.great w) = true
 ·rw [if_pos p5] at h; obtain ⟨t, h0, rfl⟩ := rs_map h
  have := word_sz h0 hl
  exact ⟨fitm_leaf (Or.inl ⟨Or.inl rfl, by rw [Hd.small_length]; omega, by omega⟩) (by simp), this.2⟩
 rw [if_neg p5] at h
 by_cases p6 : Hd.great w = wHeader
 ·rw [if_pos p6] at h; obtain ⟨_, _, _, h1, h2⟩ := rs_then h; obtain ⟨_, h3, rfl⟩ := rs_map h2
  have i := word_sz h1 hl
  have j := word_sz h3 i.2
  exact ⟨fitm_leaf (Or.inl ⟨Or.inl rfl, by rw [Hd.small_length]; omega, by omega⟩) (by simp), j.2⟩
 rw [if_neg p6] at h
 by_cases p7 : Hd.great w = wBody
 ·rw [if_pos p7] at h; obtain ⟨_, h0, rfl⟩ := rs_map h
  have := word_sz h0 hl
  exact ⟨fitm_leaf (Or.inl ⟨Or.inr (Or.inl rfl), by simp, by omega⟩) (by simp), this.2⟩
 rw [if_neg p7] at h
 by_cases p8 : Hd.great w = wText
 ·rw [if_pos p8] at h; obtain ⟨_, h0, rfl⟩ := rs_map h
  have := word_sz h0 hl
  exact ⟨fitm_leaf (Or.inl ⟨Or.inr (Or.inr rfl), by simp, by omega⟩) (by simp), this.2⟩
 rw [if_neg p8] at h
 by_cases p9 : wMeas.contains (Hd.great w) = true
 ·rw [if_pos p9] at h; obtain ⟨_, _, _, h1, h2⟩ := rs_then h; obtain ⟨_, h3, rfl⟩ := rs_map h2
  obtain rfl := num_rest h3
  have hi : wMeas.idxOf (Hd.great w) < 5 := List.idxOf_lt_length_of_mem (List.contains_iff_mem.1 p9)
  exact ⟨fitm_leaf (Or.inr (Or.inr (by unfold NumL; omega))) (by simp), (word_sz h1 hl).2⟩
 rw [if_neg p9] at h
 by_cases p10 : Hd.great w = wUid
 ·rw [if_pos p10] at h; obtain ⟨_, _, _, h1, h2⟩ := rs_then h; obtain ⟨_, h3, rfl⟩ := rs_map h2
  obtain ⟨i, rfl⟩ := set_len h3
  exact ⟨fitm_leaf (Or.inr (Or.inr (by unfold NumL; omega))) (by omega), (word_sz h1 hl).2⟩
 rw [if_neg p10] at h
 by_cases p11 : Hd.great w = wNot
 ·rw [if_pos p11] at h; obtain ⟨_, h0, rfl⟩ := rs_map h
  obtain ⟨i1, i2⟩ := hG _ _ _ _ _ h0 hl
  exact ⟨(fitm_not i1).step, i2⟩
 rw [if_neg p11] at h
 by_cases p12 : Hd.great w = wOr
 ·rw [if_pos p12] at h; obtain ⟨_, _, _, h1, h2⟩ := rs_then h; obtain ⟨_, h3, rfl⟩ := rs_map h2
  obtain ⟨i1, i2⟩ := hG _ _ _ _ _ h1 hl
  obtain ⟨j1, j2⟩ := hG _ _ _ _ _ h3 i2
  exact ⟨(fitm_or i1 j1).step, j2⟩
 rw [if_neg p12] at h
 obtain ⟨_, h0, rfl⟩ := rs_map h
 obtain ⟨i, rfl⟩ := set_len h0
 exact ⟨fitm_leaf (Or.inr (Or.inr (by unfold NumL; omega))) (by omega), hl⟩
theorem key_fitm {B : Nat} (hB : B ≤ 900000) : ∀ (f : Nat), FitM B (2 * f) (keyF f)
 | 0, l, c, k, l', c', h, _ => by cases h
 | f + 1, l, c, k, l', c', h, hl => by
  by_cases hc : 60 < c + 1
  ·rw [keyF_lim hc] at h; cases h
  ·cases l with
   | nil => rw [keyF_nil hc] at h; cases h
   | cons a r =>
    obtain ⟨t1, t2, t3⟩ := hl.tail
    by_cases h3 : a.kind = 3
    ·rw [keyF_list hc h3] at h
     obtain ⟨k1, l1, c1, h1, h2⟩ := rs_then h
     cases h2
     exact ⟨(keys_fitm (key_fitm hB f) _ _ _ _ _ h1 t2).1.le (by omega), t3⟩
    ·rw [keyF_word hc h3] at h
     have := wordK_fitm hB (key_fitm hB f) t1 t3 h
     exact ⟨this.1.le (by omega), this.2⟩
theorem parse_fitm {B : Nat} (hB : B ≤ 900000) {l l' : List Ar} {c : Nat} {k : Ky} (hl : Sz B l) (h : parseK l = .ok k l' c) : Fit AllM 900 k := ((keys_fitm (key_fitm hB 7)) _ _ _ _ _ h hl).1.le (by omega)
theorem filter_any (p : Sr.Ky → Bool) (ks : List Sr.Ky) : decide (0 < ((ks.filter p).length : Int)) = ks.any p := by
 rw [Bool.eq_iff_iff, decide_eq_true_eq, List.any_eq_true]
 constructor
 ·intro h
  obtain ⟨x, hx⟩ := List.exists_mem_of_length_pos (show 0 < (ks.filter p).length by omega)
  exact ⟨x, (List.mem_filter.1 hx).1, (List.mem_filter.1 hx).2⟩
 ·rintro ⟨x, h1, h2⟩
  have := List.length_pos_of_mem (List.mem_filter.2 ⟨h1, h2⟩)
  omega
theorem filter_all (p : Sr.Ky → Bool) (ks : List Sr.Ky) : (((ks.filter p).length : Int) == (ks.length : Int)) = !ks.any fun k => !p k := by
 rw [Bool.eq_iff_iff, beq_iff_eq, Bool.not_eq_true', Bool.eq_false_iff, ne_eq, List.any_eq_true]
 constructor
 ·rintro h ⟨x, h1, h2⟩
  have h3 : (ks.filter p).length = ks.length := by omega
  have h4 := List.length_filter_eq_length_iff.1 h3 x h1
  rw [h4] at h2
  cases h2
 ·intro h
  have : (ks.filter p).length = ks.length := List.length_filter_eq_length_iff.2 fun x hx => by
   cases hp : p x with
   | true => rfl
   | false => exact absurd ⟨x, hx, by rw [hp]; rfl⟩ h
  omega
theorem rfound_is (m : Sr.Lt) (Ok : Nat → Prop) (tb : ByteArray) (fa : Option Addr) (fn fc : Nat) (mx : Int) (w0 : World) (htb : tb.data.toList = m.text) (ht : tb.size ≤ 90000) (hF : Sl w0 (.slice fa fn fc) m.flags) (hFl : m.flags.length ≤ 1000) (hm : w0.cell? ⟨1, 0, none⟩ = some (.int .i64 mx))
  (hf : w0.cell? ⟨0, 0, none⟩ = some (.int .i64 0) ∧ w0.cell? ⟨0, 1, none⟩ = some (.int .i64 (-1))) :
  ∀ (f : Nat) (k : Sr.Ky) (ys : List Value) (w : World), Fit AllM f k → Sm k → Below w0.heap.size w0 w → Kx w Ok k ys →
  Calls Tryz.prog 11 #[.agg ys.toArray, .agg #[.int .i64 m.uid, .slice fa fn fc, .int .i64 m.day, .string tb], .int .i64 m.which, .int .i64 m.many, .int .i64 m.greatest] w fun e w' => e = .returned (.bool (Sr.holdsK m k)) ∧ Below w.heap.size w w' := by
 intro f
 induction f with
 | zero => intro k ys w h; exact h.elim
 | succ f ih =>
  intro k ys w hfit hsm hb hk
  obtain ⟨code, name, text, n, set, keys⟩ := k
  obtain ⟨hs, hkl, h⟩ := hfit
  cases hsm with
  | mk _ _ _ _ _ _ _ _ hn hsub =>
  have hmw := (hb.cell (World.block_lt_of_cell? _ _ hm)).trans hm
  have hfw : w.cell? ⟨0, 0, none⟩ = some (.int .i64 0) ∧ w.cell? ⟨0, 1, none⟩ = some (.int .i64 (-1)) := ⟨(hb.cell (World.block_lt_of_cell? _ _ hf.1)).trans hf.1, (hb.cell (World.block_lt_of_cell? _ _ hf.2)).trans hf.2⟩
  have hlen : (m.text.length : Int) = (tb.size : Int) := by rw [← htb, list_size]
  rcases h with (⟨hc, hnl, htl⟩ | rfl | hc) | ⟨hc, hi⟩
  ·rcases hc with rfl | rfl | rfl
   ·rw [show Sr.holdsK m (.mk 3 name text n set keys) = Sr.fieldT m.text name text by rw [Sr.holdsK]; simp]
    exact rfound_3 m name text n set keys ys Ok tb fa fn fc mx w hk htb ht hmw hfw htl (hn rfl)
   ·rw [show Sr.holdsK m (.mk 4 name text n set keys) = Sr.hasT (Hd.bodyOf m.text) text by rw [Sr.holdsK]; simp]
    exact rfound_4 m name text n set keys ys Ok tb fa fn fc mx w hk htb ht hmw htl
   ·rw [show Sr.holdsK m (.mk 5 name text n set keys) = Sr.hasT m.text text by rw [Sr.holdsK]; simp]
    exact rfound_5 m name text n set keys ys Ok tb fa fn fc mx w hk htb ht hmw htl
  ·rw [show Sr.holdsK m (.mk 2 name text n set keys) = m.flags.contains name by rw [Sr.holdsK]; simp]
   exact rfound_2 m name text n set keys ys Ok tb fa fn fc mx w hk htb ht hmw (hF.below hb (Nat.le_refl _)) hFl
  ·rcases hc with rfl | rfl | rfl | rfl | rfl | rfl | rfl | rfl
   ·rw [show Sr.holdsK m (.mk 1 name text n set keys) = true by rw [Sr.holdsK]; simp]
    exact rfound_num m 1 name text n set keys ys Ok tb fa fn fc mx w hk htb ht hmw _ (Or.inl ⟨rfl, rfl⟩)
   ·rw [show Sr.holdsK m (.mk 6 name text n set keys) = decide (n < (tb.size : Int)) by rw [Sr.holdsK, hlen]; simp]
    exact rfound_num m 6 name text n set keys ys Ok tb fa fn fc mx w hk htb ht hmw _ (Or.inr (Or.inl ⟨rfl, rfl⟩))
   ·rw [show Sr.holdsK m (.mk 7 name text n set keys) = decide ((tb.size : Int) < n) by rw [Sr.holdsK, hlen]; simp]
    exact rfound_num m 7 name text n set keys ys Ok tb fa fn fc mx w hk htb ht hmw _ (Or.inr (Or.inr (Or.inl ⟨rfl, rfl⟩)))
   ·rw [show Sr.holdsK m (.mk 8 name text n set keys) = decide (m.day < n) by rw [Sr.holdsK]; simp]
    exact rfound_num m 8 name text n set keys ys Ok tb fa fn fc mx w hk htb ht hmw _ (Or.inr (Or.inr (Or.inr (Or.inl ⟨rfl, rfl⟩))))
   ·rw [show Sr.holdsK m (.mk 9 name text n set keys) = (m.day == n) by rw [Sr.holdsK, Bool.eq_iff_iff]; simp]
    exact rfound_num m 9 name text n set keys ys Ok tb fa fn fc mx w hk htb ht hmw _ (Or.inr (Or.inr (Or.inr (Or.inr (Or.inl ⟨rfl, rfl⟩)))))
   ·rw [show Sr.holdsK m (.mk 10 name text n set keys) = !decide (m.day < n) by rw [Sr.holdsK, Bool.eq_iff_iff]; simp]
    exact rfound_num m 10 name text n set keys ys Ok tb fa fn fc mx w hk htb ht hmw _ (Or.inr (Or.inr (Or.inr (Or.inr (Or.inr ⟨rfl, rfl⟩)))))
   ·rw [show Sr.holdsK m (.mk 11 name text n set keys) = hasSet m.uid m.greatest (Sr.setI set) by rw [Sr.holdsK]; simp]
    exact rfound_11 m name text n set keys ys Ok tb fa fn fc mx w hk htb ht hmw hs
   ·rw [show Sr.holdsK m (.mk 12 name text n set keys) = hasSet m.which m.many (Sr.setI set) by rw [Sr.holdsK]; simp]
    exact rfound_12 m name text n set keys ys Ok tb fa fn fc mx w hk htb ht hmw hs
  ·have cI : ∀ W q xs, q ∈ keys → Below w.heap.size w W → Kx W Ok q xs → Calls Tryz.prog 11 #[.agg xs.toArray, .agg #[.int .i64 m.uid, .slice fa fn fc, .int .i64 m.day, .string tb], .int .i64 m.which, .int .i64 m.many, .int .i64 m.greatest] W fun e w' => e = .returned (.bool (Sr.holdsK m q)) ∧ Below W.heap.size W w' := fun W q xs hq hW hx => ih q xs W (hi q hq) (hsub q hq) (hb.trans (hW.mono hb.size)) hx
   rcases hc with ⟨rfl, hne⟩ | rfl | rfl
   ·cases keys with
    | nil => exact absurd rfl hne
    | cons q rest =>
     rw [show Sr.holdsK m (.mk 13 name text n set (q :: rest)) = !Sr.holdsK m q by rw [Sr.holdsK]; simp [Sr.notFirst]]
     exact rfound_13 m name text n set (q :: rest) ys Ok tb fa fn fc mx w hk htb ht hmw q rfl cI
   ·rw [show Sr.holdsK m (.mk 14 name text n set keys) = decide (0 < ((keys.filter (Sr.holdsK m)).length : Int)) by rw [Sr.holdsK, filter_any]; simp [any_holds]]
    exact rfound_14 m name text n set keys ys Ok tb fa fn fc mx w hk htb ht hmw hkl cI
   ·rw [show Sr.holdsK m (.mk 15 name text n set keys) = (((keys.filter (Sr.holdsK m)).length : Int) == (keys.length : Int)) by rw [Sr.holdsK, filter_all]; simp [all_holds]]
    exact rfound_15 m name text n set keys ys Ok tb fa fn fc mx w hk htb ht hmw hkl cI
end Go.Proofs.YtogigccbnohjjaaGreatDoor
namespace Go.Proofs.YtogigccbnohjjaaGreatDoor
open Go.RowKit Go.Proofs.Aid Go.Proofs.Sq
set_option maxHeartbeats 2000000
set_option maxRecDepth 100000
theorem same_ranges (v u : Value) (l : List (Int × Int)) (w : World) (h : Rg w v l) (h' : Rg w u l) (hl : l.length ≤ 1000) :
  Calls Tryz.prog 20 #[v, u] w fun e w' => e = .returned (.bool true) ∧ Below w.heap.size w w' := by
 obtain ⟨a, c, rfl, ha⟩ := h
 obtain ⟨a', c', rfl, ha'⟩ := h'
 obtain ⟨len, hn⟩ : ∃ n, l.length = n := ⟨_, rfl⟩
 rw [hn] at hl ⊢
 go_enter Tryz.func20, Tryz.ntmps20
 go_wp2
 go_loopw [5] (fun i wr => ∃ k : Nat, i = .int .i64 (k : Int) ∧ k ≤ len ∧ Below w.heap.size w wr) (fun i _ => len - (intOf i).toNat)
 case atStart => exact ⟨0, rfl, by omega, Below.refl _ _⟩
 case round =>
  obtain ⟨k, rfl, hk, hb⟩ := hrel
  by_cases hlt : k < len
  ·rcases ha with rfl | ⟨b, o, rfl, hat⟩
   ·simp at hn; omega
   rcases ha' with rfl | ⟨b', o', rfl, hat'⟩
   ·simp at hn; omega
   have hlk : l[k]? = some l[k] := List.getElem?_eq_getElem _
   obtain ⟨c1, c2⟩ := (hat.below hb (Nat.le_refl _)) k _ hlk
   obtain ⟨c3, c4⟩ := (hat'.below hb (Nat.le_refl _)) k _ hlk
   obtain ⟨⟨x, y⟩, hxy⟩ : ∃ p, l[k]'(by omega) = p := ⟨_, rfl⟩
   rw [hxy] at c1 c2 c3 c4
   simp only at c1 c2 c3 c4
   have hltI : (k : Int) < (len : Int) := by omega
   have h0I : (0 : Int) ≤ (k : Int) := by omega
   clear hlk hat hat'
   go_wp2
   go_quiet (fail)
   go_wp2
   go_roundw
   case rel => exact ⟨k + 1, by go_num, by omega, below_drewN hb _⟩
   case measure => simp [intOf]; omega
  ·clear ha ha'
   go_wp2
   go_ret
   exact ⟨rfl, hb⟩
end Go.Proofs.YtogigccbnohjjaaGreatDoor
namespace Go.Proofs.YtogigccbnohjjaaGreatDoor
open Go.RowKit Go.Proofs.Aid Go.Proofs.Sq Go.Proofs.Hd
set_option maxHeartbeats 4000000
set_option maxRecDepth 100000
theorem rg_of_sts {w : World} {Ok : Nat → Prop} {v : Value} {r : List (Nat × Nat)} (h : StS w Ok v r) : Rg w v (Sr.setI r) := by
 obtain ⟨a, c, rfl, h⟩ := h
 refine ⟨a, c, by simp [Sr.setI], ?_⟩
 rcases h with rfl | ⟨b, o, h4, _, h5⟩
 ·exact Or.inl rfl
 ·refine Or.inr ⟨b, o, h4, fun j x hj => ?_⟩
  unfold Sr.setI at hj
  rw [List.getElem?_map] at hj
  cases hs : r[j]? with
  | none => rw [hs] at hj; cases hj
  | some y => rw [hs] at hj; cases hj; exact h5 j y hs
theorem kx_open {w : World} {Ok : Nat → Prop} {code n : Int} {name text : Sr.Tx} {set : List (Nat × Nat)} {ks : List Sr.Ky} {xs : List Value} (h : Kx w Ok (.mk code name text n set ks) xs) :
  ∃ nb tb sa sc a c, xs = [.int .i64 code, .string nb, .string tb, .int .i64 n, .slice sa set.length sc, .slice a ks.length c] ∧ nb.data.toList = name ∧ tb.data.toList = text ∧ StS w Ok (.slice sa set.length sc) set ∧
   ∀ (k : Nat) q, ks[k]? = some q → ∃ b o x0 x1 x2 x3 xa xk xc ya yk yc, a = some ⟨b, o, none⟩ ∧ Kx w Ok q [.int .i64 x0, .string x1, .string x2, .int .i64 x3, .slice xa xk xc, .slice ya yk yc] ∧ (w.cell? ⟨b, o + k * 6, none⟩ = some (.int .i64 x0) ∧ w.cell? ⟨b, o + k * 6 + 1, none⟩ = some (.string x1) ∧ w.cell? ⟨b, o + k * 6 + 2, none⟩ = some (.string x2) ∧ w.cell? ⟨b, o + k * 6 + 3, none⟩ = some (.int .i64 x3) ∧ w.cell? ⟨b, o + k * 6 + 4, none⟩ = some (.slice xa xk xc) ∧ w.cell? ⟨b, o + k * 6 + 5, none⟩ = some (.slice ya yk yc)) := by
 cases h with
 | mk code n nb tb set sv ks a c rows hst hkk ha =>
  obtain ⟨sa, sc, rfl, hsa⟩ := hst
  refine ⟨nb, tb, sa, sc, a, c, rfl, rfl, rfl, ⟨sa, sc, rfl, hsa⟩, fun k q hq => ?_⟩
  have hq6 := hkk k q hq
  rcases ha with h | ⟨b, o, h1, h2, h3⟩
  ·rw [h] at hq; cases hq
  ·have hcl := h3 k q hq
   generalize rows k = xs at hq6 hcl
   obtain ⟨x0, x3, x1, x2, xa, xk, xc, ya, yk, yc, rfl⟩ := kx_cells hq6
   exact ⟨b, o, x0, x1, x2, x3, xa, xk, xc, ya, yk, yc, h1, hq6, hcl 0 _ rfl, hcl 1 _ rfl, hcl 2 _ rfl, hcl 3 _ rfl, hcl 4 _ rfl, hcl 5 _ rfl⟩
theorem same_key1 (code n : Int) (name text : Sr.Tx) (set : List (Nat × Nat)) (ks : List Sr.Ky) (xs ys : List Value) (Oa Ob : Nat → Prop) (w : World) (hx : Kx w Oa (.mk code name text n set ks) xs) (hy : Kx w Ob (.mk code name text n set ks) ys) (hs : set.length ≤ 1000) (hkl : ks.length ≤ 1000)
  (cI : ∀ W q xs ys, q ∈ ks → Below w.heap.size w W → Kx W Oa q xs → Kx W Ob q ys → Calls Tryz.prog 9 #[.agg xs.toArray, .agg ys.toArray] W fun e w' => e = .returned (.bool true) ∧ Below W.heap.size W w') :
  Calls Tryz.prog 9 #[.agg xs.toArray, .agg ys.toArray] w fun e w' => e = .returned (.bool true) ∧ Below w.heap.size w w' := by
 obtain ⟨nb, tb, sa, sc, a, c, rfl, hnb, htb, hst, hrow⟩ := kx_open hx
 obtain ⟨nb', tb', sb, sd, b, d, rfl, hnb', htb', hst', hrow'⟩ := kx_open hy
 obtain rfl : nb = nb' := text_ext (by rw [hnb, hnb'])
 obtain rfl : tb = tb' := text_ext (by rw [htb, htb'])
 obtain ⟨SN, hSN⟩ : ∃ x, set.length = x := ⟨_, rfl⟩
 obtain ⟨KN, hKN⟩ : ∃ x, ks.length = x := ⟨_, rfl⟩
 rw [hSN] at hst hst'
 have hKL : KN ≤ 1000 := by omega
 rw [hSN, hKN, show ([.int .i64 code, .string nb, .string tb, .int .i64 n, .slice sa SN sc, .slice a KN c] : List Value).toArray = #[.int .i64 code, .string nb, .string tb, .int .i64 n, .slice sa SN sc, .slice a KN c] from rfl, show ([.int .i64 code, .string nb, .string tb, .int .i64 n, .slice sb SN sd, .slice b KN d] : List Value).toArray = #[.int .i64 code, .string nb, .string tb, .int .i64 n, .slice sb SN sd, .slice b KN d] from rfl]
 obtain ⟨W2, hW2, hz2, e1, e2, hb2⟩ := two_boxes w #[.int .i64 code, .string nb, .string tb, .int .i64 n, .slice sa SN sc, .slice a KN c] #[.int .i64 code, .string nb, .string tb, .int .i64 n, .slice sb SN sd, .slice b KN d] 32 32
 have cR := same_ranges (.slice sa SN sc) (.slice sb SN sd) (Sr.setI set) W2 ((rg_of_sts hst).below hb2 (Nat.le_refl _)) ((rg_of_sts hst').below hb2 (Nat.le_refl _)) (by unfold Sr.setI; rw [List.length_map]; exact hs)
 have k0 := rd_cell (j := 0) e1 rfl
 have k1 := rd_cell (j := 1) e1 rfl
 have k2 := rd_cell (j := 2) e1 rfl
 have k3 := rd_cell (j := 3) e1 rfl
 have k4 := rd_cell (j := 4) e1 rfl
 have l0 := rd_cell (j := 0) e2 rfl
 have l1 := rd_cell (j := 1) e2 rfl
 have l2 := rd_cell (j := 2) e2 rfl
 have l3 := rd_cell (j := 3) e2 rfl
 have l4 := rd_cell (j := 4) e2 rfl
 have HX2 : Hid (∀ W, Below W2.heap.size W2 W → (W.cell? ⟨w.heap.size, 5, none⟩ = some (.slice a KN c) ∧ W.cell? ⟨w.heap.size + 1, 5, none⟩ = some (.slice b KN d)) ∧ Below w.heap.size w W) := fun W hb => by
  have h1 := (hb.block w.heap.size (by omega)).trans e1
  have h2 := (hb.block (w.heap.size + 1) (by omega)).trans e2
  exact ⟨⟨rd_cell h1 rfl, rd_cell h2 rfl⟩, hb2.trans (hb.mono hb2.size)⟩
 have HROW : Hid (∀ (k : Nat) q, ks[k]? = some q → ∃ b o x0 x1 x2 x3 xa xk xc ya yk yc, a = some ⟨b, o, none⟩ ∧ Kx w Oa q [.int .i64 x0, .string x1, .string x2, .int .i64 x3, .slice xa xk xc, .slice ya yk yc] ∧ (w.cell? ⟨b, o + k * 6, none⟩ = some (.int .i64 x0) ∧ w.cell? ⟨b, o + k * 6 + 1, none⟩ = some (.string x1) ∧ w.cell? ⟨b, o + k * 6 + 2, none⟩ = some (.string x2) ∧ w.cell? ⟨b, o + k * 6 + 3, none⟩ = some (.int .i64 x3) ∧ w.cell? ⟨b, o + k * 6 + 4, none⟩ = some (.slice xa xk xc) ∧ w.cell? ⟨b, o + k * 6 + 5, none⟩ = some (.slice ya yk yc))) := hrow
 have HROW' : Hid (∀ (k : Nat) q, ks[k]? = some q → ∃ b' o x0 x1 x2 x3 xa xk xc ya yk yc, b = some ⟨b', o, none⟩ ∧ Kx w Ob q [.int .i64 x0, .string x1, .string x2, .int .i64 x3, .slice xa xk xc, .slice ya yk yc] ∧ (w.cell? ⟨b', o + k * 6, none⟩ = some (.int .i64 x0) ∧ w.cell? ⟨b', o + k * 6 + 1, none⟩ = some (.string x1) ∧ w.cell? ⟨b', o + k * 6 + 2, none⟩ = some (.string x2) ∧ w.cell? ⟨b', o + k * 6 + 3, none⟩ = some (.int .i64 x3) ∧ w.cell? ⟨b', o + k * 6 + 4, none⟩ = some (.slice xa xk xc) ∧ w.cell? ⟨b', o + k * 6 + 5, none⟩ = some (.slice ya yk yc))) := hrow'
 have HCI : Hid (∀ W q xs ys, q ∈ ks → Below w.heap.size w W → Kx W Oa q xs → Kx W Ob q ys → Calls Tryz.prog 9 #[.agg xs.toArray, .agg ys.toArray] W fun e w' => e = .returned (.bool true) ∧ Below W.heap.size W w') := cI
 have HKN : Hid (ks.length = KN) := hKN
 clear hx hy e1 e2 hb2 hrow hrow' cI hst hst' hnb htb hnb' htb' hSN hKN hs hkl
 go_enter Tryz.func9, Tryz.ntmps9
 go_wp2_with fail
 refine cR.mono ?_
 rintro e w3 ⟨rfl, hb3⟩
 obtain ⟨⟨k5, l5⟩, _⟩ := HX2.out w3 hb3
 have HX3 : Hid (∀ W, Below w3.heap.size w3 W → (W.cell? ⟨w.heap.size, 5, none⟩ = some (.slice a KN c) ∧ W.cell? ⟨w.heap.size + 1, 5, none⟩ = some (.slice b KN d)) ∧ Below w.heap.size w W) := fun W hb => HX2.out W (hb3.trans (hb.mono hb3.size))
 clear cR hb3 HX2
 go_wp2_with fail
 go_loopw [5] (fun i wr => ∃ k : Nat, i = .int .i64 (k : Int) ∧ k ≤ KN ∧ Below w3.heap.size w3 wr) (fun i _ => KN - (intOf i).toNat)
 case atStart => exact ⟨0, rfl, Nat.zero_le _, Below.refl _ _⟩
 case round =>
  obtain ⟨k, rfl, hk, hbr⟩ := hrel
  clear k0 k1 k2 k3 k4 k5 l0 l1 l2 l3 l4 l5
  obtain ⟨⟨k5, l5⟩, hbw⟩ := HX3.out wr hbr
  by_cases hlt : k < KN
  ·have hkl : k < ks.length := by rw [HKN.out]; exact hlt
   obtain ⟨q, hq⟩ : ∃ q, ks[k] = q := ⟨_, rfl⟩
   have hqk : ks[k]? = some q := by rw [List.getElem?_eq_getElem hkl, hq]
   obtain ⟨ba, oa, x0, x1, x2, x3, xa, xk, xc, ya, yk, yc, rfl, hka, ca⟩ := HROW.out k q hqk
   obtain ⟨bb, ob, X0, X1, X2, X3, Xa, Xk, Xc, Ya, Yk, Yc, rfl, hkb, cb⟩ := HROW'.out k q hqk
   obtain ⟨H, hH⟩ : ∃ h, w.heap.size = h := ⟨_, rfl⟩
   have HK : Hid (∀ W, Below wr.heap.size wr W → ((W.cell? ⟨H, 5, none⟩ = some (.slice (some ⟨ba, oa, none⟩) KN c) ∧ W.cell? ⟨H + 1, 5, none⟩ = some (.slice (some ⟨bb, ob, none⟩) KN d)) ∧ (W.cell? ⟨ba, oa + k * 6, none⟩ = some (.int .i64 x0) ∧ W.cell? ⟨ba, oa + k * 6 + 1, none⟩ = some (.string x1) ∧ W.cell? ⟨ba, oa + k * 6 + 2, none⟩ = some (.string x2) ∧ W.cell? ⟨ba, oa + k * 6 + 3, none⟩ = some (.int .i64 x3) ∧ W.cell? ⟨ba, oa + k * 6 + 4, none⟩ = some (.slice xa xk xc) ∧ W.cell? ⟨ba, oa + k * 6 + 5, none⟩ = some (.slice ya yk yc)) ∧ (W.cell? ⟨bb, ob + k * 6, none⟩ = some (.int .i64 X0) ∧ W.cell? ⟨bb, ob + k * 6 + 1, none⟩ = some (.string X1) ∧ W.cell? ⟨bb, ob + k * 6 + 2, none⟩ = some (.string X2) ∧ W.cell? ⟨bb, ob + k * 6 + 3, none⟩ = some (.int .i64 X3) ∧ W.cell? ⟨bb, ob + k * 6 + 4, none⟩ = some (.slice Xa Xk Xc) ∧ W.cell? ⟨bb, ob + k * 6 + 5, none⟩ = some (.slice Ya Yk Yc))) ∧ Below w3.heap.size w3 W ∧ Below w.heap.size w W ∧ Kx W Oa q [.int .i64 x0, .string x1, .string x2, .int .i64 x3, .slice xa xk xc, .slice ya yk yc] ∧ Kx W Ob q [.int .i64 X0, .string X1, .string X2, .int .i64 X3, .slice Xa Xk Xc, .slice Ya Yk Yc]) := fun W hb => by
    have hb3 := hbr.trans (hb.mono hbr.size)
    obtain ⟨⟨h1, h2⟩, h3⟩ := HX3.out W hb3
    have la : ba < w.heap.size := World.block_lt_of_cell? _ _ ca.1
    have lb : bb < w.heap.size := World.block_lt_of_cell? _ _ cb.1
    rw [hH] at h1 h2
    exact ⟨⟨⟨h1, h2⟩, ⟨(h3.cell (p := ⟨ba, _, none⟩) la).trans ca.1, (h3.cell (p := ⟨ba, _, none⟩) la).trans ca.2.1, (h3.cell (p := ⟨ba, _, none⟩) la).trans ca.2.2.1, (h3.cell (p := ⟨ba, _, none⟩) la).trans ca.2.2.2.1, (h3.cell (p := ⟨ba, _, none⟩) la).trans ca.2.2.2.2.1, (h3.cell (p := ⟨ba, _, none⟩) la).trans ca.2.2.2.2.2⟩, ⟨(h3.cell (p := ⟨bb, _, none⟩) lb).trans cb.1, (h3.cell (p := ⟨bb, _, none⟩) lb).trans cb.2.1, (h3.cell (p := ⟨bb, _, none⟩) lb).trans cb.2.2.1, (h3.cell (p := ⟨bb, _, none⟩) lb).trans cb.2.2.2.1, (h3.cell (p := ⟨bb, _, none⟩) lb).trans cb.2.2.2.2.1, (h3.cell (p := ⟨bb, _, none⟩) lb).trans cb.2.2.2.2.2⟩⟩, hb3, h3, hka.under h3, hkb.under h3⟩
   have hbd : Below wr.heap.size wr wr.drew := (Below.refl _ _).drew
   have hKd := HK.out _ hbd
   have cC := HCI.out wr.drew q [.int .i64 x0, .string x1, .string x2, .int .i64 x3, .slice xa xk xc, .slice ya yk yc] [.int .i64 X0, .string X1, .string X2, .int .i64 X3, .slice Xa Xk Xc, .slice Ya Yk Yc] (by rw [← hq]; exact List.getElem_mem _) hKd.2.2.1 hKd.2.2.2.1 hKd.2.2.2.2
   have hltI : (k : Int) < (KN : Int) := by omega
   rw [hH] at k5 l5 ⊢
   clear hka ca hkb cb hKd hqk hbw
   go_wp2_with fail
   refine wp_region_held_drew (S := fun W => (W.cell? ⟨H, 5, none⟩ = some (.slice (some ⟨ba, oa, none⟩) KN c) ∧ W.cell? ⟨H + 1, 5, none⟩ = some (.slice (some ⟨bb, ob, none⟩) KN d)) ∧ (W.cell? ⟨ba, oa + k * 6, none⟩ = some (.int .i64 x0) ∧ W.cell? ⟨ba, oa + k * 6 + 1, none⟩ = some (.string x1) ∧ W.cell? ⟨ba, oa + k * 6 + 2, none⟩ = some (.string x2) ∧ W.cell? ⟨ba, oa + k * 6 + 3, none⟩ = some (.int .i64 x3) ∧ W.cell? ⟨ba, oa + k * 6 + 4, none⟩ = some (.slice xa xk xc) ∧ W.cell? ⟨ba, oa + k * 6 + 5, none⟩ = some (.slice ya yk yc)) ∧ (W.cell? ⟨bb, ob + k * 6, none⟩ = some (.int .i64 X0) ∧ W.cell? ⟨bb, ob + k * 6 + 1, none⟩ = some (.string X1) ∧ W.cell? ⟨bb, ob + k * 6 + 2, none⟩ = some (.string X2) ∧ W.cell? ⟨bb, ob + k * 6 + 3, none⟩ = some (.int .i64 X3) ∧ W.cell? ⟨bb, ob + k * 6 + 4, none⟩ = some (.slice Xa Xk Xc) ∧ W.cell? ⟨bb, ob + k * 6 + 5, none⟩ = some (.slice Ya Yk Yc))) (by kernel_rfl) ?_ (fun hHeld => ?_)
   ·exact (HK.out _ hbd).1
   refine wpAnyH_take (i := 0) (v := ?_) rfl (by kernel_rfl) (by kernel_rfl) (by kernel_rfl) (fun _ _ _ h => h) (Or.inl ⟨by rfl, ?_⟩) (by assumption) ?_
   rotate_left
   ·intro w hSw; go_simp; (try with_reducible rfl)
   change wpAnyH _ _ _ _ _ _ _ (Act.put _ (some 56) _) _; simp only [Act.put, List.setIfInBounds_toArray, List.set_cons_zero, List.set_cons_succ]
   refine wpAnyH_take (i := 1) (v := ?_) rfl (by kernel_rfl) (by kernel_rfl) (by kernel_rfl) (fun _ _ _ h => h) (Or.inl ⟨by rfl, ?_⟩) (by assumption) ?_
   rotate_left
   ·intro w hSw; go_simp; (try with_reducible rfl)
   change wpAnyH _ _ _ _ _ _ _ (Act.put _ (some 57) _) _; simp only [Act.put, List.setIfInBounds_toArray, List.set_cons_zero, List.set_cons_succ]
   refine wpAnyH_take (i := 2) (v := ?_) rfl (by kernel_rfl) (by kernel_rfl) (by kernel_rfl) (fun _ _ _ h => h) (Or.inl ⟨by rfl, ?_⟩) (by assumption) ?_
   rotate_left
   ·intro w hSw; go_simp; (try with_reducible rfl)
   change wpAnyH _ _ _ _ _ _ _ (Act.put _ (some 58) _) _; simp only [Act.put, List.setIfInBounds_toArray, List.set_cons_zero, List.set_cons_succ]
   refine wpAnyH_take (i := 3) (v := ?_) rfl (by kernel_rfl) (by kernel_rfl) (by kernel_rfl) (fun _ _ _ h => h) (Or.inl ⟨by rfl, ?_⟩) (by assumption) ?_
   rotate_left
   ·intro w hSw; go_simp; (try with_reducible rfl)
   change wpAnyH _ _ _ _ _ _ _ (Act.put _ (some 59) _) _; simp only [Act.put, List.setIfInBounds_toArray, List.set_cons_zero, List.set_cons_succ]
   refine wpAnyH_take (i := 4) (v := ?_) rfl (by kernel_rfl) (by kernel_rfl) (by kernel_rfl) (fun _ _ _ h => h) (Or.inl ⟨by rfl, ?_⟩) (by assumption) ?_
   rotate_left
   ·intro w hSw; go_simp; (try with_reducible rfl)
   change wpAnyH _ _ _ _ _ _ _ (Act.put _ (some 60) _) _; simp only [Act.put, List.setIfInBounds_toArray, List.set_cons_zero, List.set_cons_succ]
   refine wpAnyH_take (i := 5) (v := ?_) rfl (by kernel_rfl) (by kernel_rfl) (by kernel_rfl) (fun _ _ _ h => h) (Or.inl ⟨by rfl, ?_⟩) (by assumption) ?_
   rotate_left
   ·intro w hSw; go_simp; (try with_reducible rfl)
   change wpAnyH _ _ _ _ _ _ _ (Act.put _ (some 61) _) _; simp only [Act.put, List.setIfInBounds_toArray, List.set_cons_zero, List.set_cons_succ]
   refine wpAnyH_take (i := 6) (v := ?_) rfl (by kernel_rfl) (by kernel_rfl) (by kernel_rfl) (fun _ _ _ h => h) (Or.inl ⟨by rfl, ?_⟩) (by assumption) ?_
   rotate_left
   ·intro w hSw; go_simp; (try with_reducible rfl)
   change wpAnyH _ _ _ _ _ _ _ (Act.put _ (some 62) _) _; simp only [Act.put, List.setIfInBounds_toArray, List.set_cons_zero, List.set_cons_succ]
   refine wpAnyH_take (i := 7) (v := ?_) rfl (by kernel_rfl) (by kernel_rfl) (by kernel_rfl) (fun _ _ _ h => h) (Or.inl ⟨by rfl, ?_⟩) (by assumption) ?_
   rotate_left
   ·intro w hSw; go_simp; (try with_reducible rfl)
   change wpAnyH _ _ _ _ _ _ _ (Act.put _ (some 63) _) _; simp only [Act.put, List.setIfInBounds_toArray, List.set_cons_zero, List.set_cons_succ]
   refine wpAnyH_take (i := 8) (v := ?_) rfl (by kernel_rfl) (by kernel_rfl) (by kernel_rfl) (fun _ _ _ h => h) (Or.inl ⟨by rfl, ?_⟩) (by assumption) ?_
   rotate_left
   ·intro w hSw; go_simp; (try with_reducible rfl)
   change wpAnyH _ _ _ _ _ _ _ (Act.put _ (some 64) _) _; simp only [Act.put, List.setIfInBounds_toArray, List.set_cons_zero, List.set_cons_succ]
   refine wpAnyH_take (i := 9) (v := ?_) rfl (by kernel_rfl) (by kernel_rfl) (by kernel_rfl) (fun _ _ _ h => h) (Or.inl ⟨by rfl, ?_⟩) (by assumption) ?_
   rotate_left
   ·intro w hSw; go_simp; (try with_reducible rfl)
   change wpAnyH _ _ _ _ _ _ _ (Act.put _ (some 65) _) _; simp only [Act.put, List.setIfInBounds_toArray, List.set_cons_zero, List.set_cons_succ]
   refine wpAnyH_ready (rs := [10]) (by kernel_rfl) (by simp) ?_
   refine AllReadyH.cons rfl (fun K hK => ?_) AllReadyH.nil
   go_simp
   refine cC.mono ?_
   rintro e w4 ⟨rfl, hq4⟩
   have hb4 : Below wr.heap.size wr w4 := hbd.trans (by simpa using hq4)
   obtain ⟨ks4, kb4, _⟩ := HK.out w4 hb4
   refine hK.out _ _ ?_ (fun hHeld => ?_)
   ·exact ks4
   clear hK K
   refine wpAnyH_take (i := 11) (v := ?_) rfl (by kernel_rfl) (by kernel_rfl) (by kernel_rfl) (fun _ _ _ h => h) (Or.inl ⟨by rfl, ?_⟩) (by assumption) ?_
   rotate_left
   ·intro w hSw; go_simp; (try with_reducible rfl)
   change wpAnyH _ _ _ _ _ _ _ (Act.put _ (some 67) _) _; simp only [Act.put, List.setIfInBounds_toArray, List.set_cons_zero, List.set_cons_succ]
   refine wpAnyH_done (by kernel_rfl) ?_ _
   go_wp2_with fail
   go_roundw
   case rel => exact ⟨k + 1, by go_num, by omega, kb4⟩
   case measure => simp [intOf]; omega
  ·go_wp2_with fail
   go_ret
   exact ⟨rfl, hbw⟩
theorem same_key : ∀ {k : Sr.Ky}, Sm k → ∀ (xs ys : List Value) (Oa Ob : Nat → Prop) (w : World), Kx w Oa k xs → Kx w Ob k ys →
  Calls Tryz.prog 9 #[.agg xs.toArray, .agg ys.toArray] w fun e w' => e = .returned (.bool true) ∧ Below w.heap.size w w' := by
 intro k hk
 induction hk with
 | mk code n name text set keys hs hkl hn h ih =>
  intro xs ys Oa Ob w hx hy
  exact same_key1 code n name text set keys xs ys Oa Ob w hx hy hs hkl fun W q xs ys hq hW h1 h2 => ih q hq xs ys Oa Ob W h1 h2
end Go.Proofs.YtogigccbnohjjaaGreatDoor
