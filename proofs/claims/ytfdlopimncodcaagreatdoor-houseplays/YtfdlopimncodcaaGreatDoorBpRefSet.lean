/-
  The document's answer on a set of flags, and more.
-/
import Derived.Test.YtfdlopimncodcaaGreatDoorMRefOrdered
import Derived.Test.YtfdlopimncodcaaGreatDoorBpHpDoc
import Derived.Test.YtfdlopimncodcaaGreatDoorBpRmMatch
import Derived.LaidEql
import Derived.Stop.Asserts
import Derived.RowKitTokens
namespace Go.Proofs.YtfdlopimncodcaaGreatDoor
open Go.RowKit Go.Proofs.Aid Go.Proofs.Fl Go.Sort Go.Lib
theorem fname_len (s : Tx) : (fname s).1.length ≤ s.length + 10 := by
  unfold fname
  split
  · split
    · next n h =>
      have hm := List.mem_of_find?_eq_some h
      have : ∀ u ∈ five, u.length ≤ 10 := by decide
      have := this n hm
      show n.length ≤ _
      omega
    · simp
  · split
    · simp
    · split <;> simp
set_option maxHeartbeats 2000000 in
set_option maxRecDepth 100000 in
theorem ref_set (v : Value) (l : List Tx) (w : World) (h : Sl w v l) (hl : l.length ≤ 400) (hs : ∀ t ∈ l, t.length ≤ 900000) :
    Calls Tryz.prog 98 #[v] w fun e w' => (∃ v', e = .returned (.tuple #[v', .int .i64 (setOf l).2]) ∧ Sl w' v' (setOf l).1) ∧ Below w.heap.size w w' := by
  have hk : ∀ W, Below w.heap.size w W → Sl W v l := fun W hb => h.below hb (Nat.le_refl _)
  obtain ⟨a, c, rfl, _, _⟩ := h
  obtain ⟨len, hn⟩ : ∃ n, l.length = n := ⟨_, rfl⟩
  rw [hn] at hl hk ⊢
  have HS : Hid (∀ t ∈ l, t.length ≤ 900000) := hs
  clear hs
  go_enter Tryz.func98, Tryz.ntmps98
  go_wp2
  go_loopw [4, 12] (fun rv i wr => ∃ (k : Nat) (ns : List Tx), i = .int .i64 (k : Int) ∧ k ≤ len ∧ ns.length = k ∧ wr.ownsRow w.heap.size 9 1 rv ns.length (ns.map encStr) ∧ Hid (namesOf (l.take k) = (ns, 0) ∧ ∀ t ∈ ns, t.length ≤ 1000000) ∧ Below w.heap.size w wr) (fun _ i _ => len - (intOf i).toNat)
  case atStart => exact ⟨0, [], rfl, by omega, rfl, World.ownsRow_nil _ _ _ _, ⟨rfl, by simp⟩, Below.refl _ _⟩
  case round =>
    obtain ⟨k, ns, rfl, hkl, hnl, hrow, HN, hbW⟩ := hrel
    subst hnl
    by_cases hlt : ns.length < len
    · obtain ⟨a', c', hv, _, hd⟩ := hk _ hbW
      cases hv
      rcases hd with h0 | ⟨b, o, rfl, hat⟩
      · rw [h0] at hlt; exact absurd hlt (by simp)
      have hkk : ns.length < l.length := by omega
      have c1 := hat ns.length _ (List.getElem?_eq_getElem hkk)
      have hts : l[ns.length].length ≤ 900000 := HS.out _ (List.getElem_mem _)
      obtain ⟨t, ht⟩ : ∃ t, l[ns.length] = t := ⟨_, rfl⟩
      have HT : Hid (l[ns.length] = t) := ht
      rw [ht] at c1 hts
      have HTL : Hid (t.length ≤ 900000) := hts
      obtain ⟨s, hse⟩ : ∃ s : ByteArray, ⟨t.toArray⟩ = s := ⟨_, rfl⟩
      have hst : s.data.toList = t := by rw [← hse]
      have hsz : s.size ≤ 1000000 := by rw [← hse]; have : t.toArray.size ≤ 900000 := by simpa using hts
                                        simp only [ByteArray.size]; omega
      have c2 : wr.cell? ⟨b, o + ns.length, none⟩ = some (.string s) := by rw [← hse]; exact c1
      have cN := ref_name s wr hsz
      rw [hst] at cN
      obtain ⟨ec, hec⟩ : ∃ ec, (fname t).2 = ec := ⟨_, rfl⟩
      rw [hec] at cN
      have HEC : Hid ((fname t).2 = ec) := hec
      have hbs := hbW.size
      clear hat ht hse hst c1 hts hk hec
      go_wp2_with fail
      refine cN.mono ?_
      rintro e w1 ⟨⟨n, rfl, hnn⟩, hb1⟩
      have hrow1 := row_below hb1 (Nat.le_refl _) hrow
      have hb01 := hbW.trans (hb1.mono hbs)
      have hbs1 := hb01.size
      have HNN : Hid (n.data.toList = (fname t).1) := hnn
      clear hnn cN hrow
      by_cases h0 : ec = 0
      · have HE : Hid (namesOf (l.take (ns.length + 1)) = (ns ++ [(fname t).1], 0)) := by
          have := names_step hkk HN.out.1 (by rw [HT.out, HEC.out]; exact h0)
          rw [HT.out] at this; exact this
        subst h0
        go_wp2_with (at_builtin; go_must (refine wpList_push rfl (.tmp 24) (.tmp 26) 32 rfl _ w.heap.size 9 (.string ⟨#[]⟩) 16 Tryz.underlying32 Tryz.infoStr rfl _ _ _ (by rfl) hrow1 [.string n] _ (by rfl) (by simp) (by simp [Value.oneCell']) (by simp) (by rfl) (by decide) (by simp; omega) hbs1 ?_); intro g1 cap1 w9 hown1 hg1 hlt1)
        have hb9 : Below w.heap.size w w9 := hb01.grown hg1 hbs1 (fun j e => (hrow1.lt j e).1)
        go_roundw
        case rel => exact ⟨ns.length + 1, ns ++ [(fname t).1], by go_num, by omega, by simp, by rw [← HNN.out]; simpa [encStr] using hown1, ⟨HE.out, fun u hu => by
          rcases List.mem_append.1 hu with h | h
          · exact HN.out.2 u h
          · rw [List.mem_singleton.1 h]; have := fname_len t; have := HTL.out; omega⟩, hb9⟩
        case measure => simp [intOf]; omega
      · have HE : Hid (setOf l = ([], ec)) := by
          have := names_stop hkk HN.out.1 (by rw [HT.out, HEC.out]; exact h0)
          rw [HT.out, HEC.out] at this; exact this
        clear hrow1
        go_wp2_with fail
        go_ret2
        rw [HE.out]
        exact ⟨⟨_, rfl, ⟨none, 0, rfl, ⟨fun _ => rfl, Nat.le_refl _⟩, Or.inl rfl⟩⟩, hb01⟩
    · have hke : ns.length = len := by omega
      have HA : Hid (namesOf l = (ns, 0)) := by
        have := HN.out.1
        rw [List.take_of_length_le (by omega)] at this
        exact this
      have cO := ref_ordered _ ns _ (Sl.of_row hrow) (by omega) HN.out.2
      clear hrow hk
      go_wp2_with fail
      refine cO.mono ?_
      rintro e w2 ⟨⟨v2, rfl, hs2⟩, hb2⟩
      have hset : setOf l = if 12 < (order ns).length then ([], 4) else (order ns, 0) := by
        unfold setOf
        rw [HA.out]
        simp
      have hs3 := hs2
      obtain ⟨oa, oc, rfl, _, _⟩ := hs3
      have hb02 := hbW.trans (hb2.mono hbW.size)
      obtain ⟨m, hm⟩ : ∃ m, (order ns).length = m := ⟨_, rfl⟩
      rw [hm] at hset hs2 ⊢
      have HSET : Hid (setOf l = if 12 < m then ([], 4) else (order ns, 0)) := hset
      clear hset cO hm
      by_cases h12 : 12 < m
      · have h12' : (12 : Int) < (m : Int) := by omega
        go_wp2_with fail
        go_ret2
        rw [HSET.out, if_pos h12]
        exact ⟨⟨_, rfl, ⟨none, 0, rfl, ⟨fun _ => rfl, Nat.le_refl _⟩, Or.inl rfl⟩⟩, hb02⟩
      · have h12' : ¬ (12 : Int) < (m : Int) := by omega
        go_wp2_with fail
        go_ret2
        rw [HSET.out, if_neg h12]
        exact ⟨⟨_, rfl, hs2⟩, hb02⟩
end Go.Proofs.YtfdlopimncodcaaGreatDoor
namespace Go.Proofs.YtfdlopimncodcaaGreatDoor
open Go.RowKit Go.Proofs.Aid Go.Proofs.Bx
section
variable {H K hb mb rb rm rw : Nat} {l l2 Wl : Bxs} {nx : Int} {W : List Nm} {C C2 : Nat → Bxd} {wv : Value} {w : World}
theorem mv_low2 {N T : Nm} (hs : SortedB l2) (hw : Wh l2) (hN : hasB l2 N = true) (hT : hasB l2 T = false) : ∀ p ∈ mvAll T N (mvList l2 N) l2, ∃ x, (x, p.2) ∈ l2 := fun p hp => by
  have h2 := (mv0_mem hs hw hN hT (mvList l2 N).length p.1 p.2).1 (by rw [List.take_length]; exact hp)
  rcases h2 with ⟨h3, _⟩ | ⟨x, _, h3, _⟩
  · exact ⟨_, h3⟩
  · exact ⟨x, h3⟩
theorem mv_blk2 {N T : Nm} (hs : SortedB l2) (hw : Wh l2) (hN : hasB l2 N = true) (hT : hasB l2 T = false) (hq : ∀ p ∈ l2, ∀ r ∈ l2, p.2 = r.2 → p = r) : ∀ p ∈ mvAll T N (mvList l2 N) l2, ∀ r ∈ mvAll T N (mvList l2 N) l2, p.2 = r.2 → p = r := fun ⟨m, c⟩ hp ⟨m', c'⟩ hr e => by
  obtain rfl : c = c' := e
  have g := fun m => mv0_mem hs hw hN hT (mvList l2 N).length m c
  simp only [List.take_length] at g
  have : m = m' := by
    rcases (g m).1 hp with ⟨h1, h2⟩ | ⟨x, h1, h2, h3⟩
    · rcases (g m').1 hr with ⟨k1, k2⟩ | ⟨y, k1, k2, k3⟩
      · exact congrArg Prod.fst (hq _ h1 _ k1 rfl)
      · have := congrArg Prod.fst (hq _ h1 _ k2 rfl)
        exact absurd k1 (by rw [← show m = y from this]; exact h2)
    · rcases (g m').1 hr with ⟨k1, k2⟩ | ⟨y, k1, k2, k3⟩
      · have := congrArg Prod.fst (hq _ h2 _ k1 rfl)
        exact absurd h1 (by rw [show x = m' from this]; exact k2)
      · have := congrArg Prod.fst (hq _ h2 _ k2 rfl)
        rw [h3, k3, show x = y from this]
  rw [this]
theorem both_rename (t : TwoAt H K hb mb rb rm rw l l2 Wl nx W C C2 wv w) (hEn : ∀ W, Below H w W → NEnv W) (hK : K ≤ 90) (s u : ByteArray) (hs : s.size ≤ 1000) (hu : u.size ≤ 1000) :
    Calls Tryz.prog 32 #[.pointer (some ⟨hb, 0, none⟩), .string s, .string u] w fun e w1 => ∃ c, e = .returned (errV c) ∧ Below H w w1 ∧ KeepK w w1 ∧ Then H K hb rb 45 #[.pointer (some ⟨rb, 0, none⟩), .string s, .string u] c w1 := by
  have hnx := t.p.hi.nxt
  obtain ⟨a, c, hwv⟩ := t.p.st.form
  obtain ⟨M, hM⟩ : ∃ n, W.length = n := ⟨_, rfl⟩
  rw [hM] at hwv
  subst hwv
  refine (rename_p H hb mb K l nx W C a M c s u w (hEn w (Below.refl _ _)) t.p hK hs hu).mono ?_
  rintro e w1 (hE | ⟨h0, rfl, tp, hlow, hren⟩)
  · refine ⟨_, then_err t hE fun t1 => ?_⟩
    refine (rrename_c rb rm rw l2 Wl nx C2 s u w1 (hEn w1 (hE.2.2.1.mono t.p.st.h0)) t1.r t1.wh2 hs hu t1.len2 t1.short2 (by omega)).mono ?_
    rw [cRename_names t.names]
    rintro e2 w2 (⟨_, rfl, q3⟩ | ⟨q1, _⟩)
    · exact ⟨rfl, q3⟩
    · exact absurd q1 hE.1
  · have r1 := t.r1 tp
    have hH1 : H ≤ w1.heap.size := Nat.le_trans t.p.st.h0 tp.size
    refine ⟨0, by rw [errV_zero], hlow, keep_ps t.p.st tp, ?_⟩
    refine (rrename_c rb rm rw l2 Wl nx C2 s u w1 (hEn w1 hlow) r1 t.wh2 hs hu t.len2 t.short2 (by omega)).mono ?_
    rw [cRename_names t.names]
    rintro e2 w2 (⟨q1, _⟩ | ⟨_, rfl, td, hren2⟩)
    · exact absurd h0 q1
    · refine ⟨rfl, td.lowD t.lowr t.lowb hH1, keep_ds r1 td, ?_⟩
      rcases hren with ⟨T, a1, a2, a3, ps, fb, tb, a4, a5, a6, a7⟩ | ⟨N, T, a1, a2, a3, a4, a5, a6, ps, a7, a8⟩
      · rcases hren2 with ⟨T', b1, b2, b3, ps2, ib, tb2, b4, b5, b6, b7⟩ | ⟨N', T', b1, b2, _⟩
        · rw [a2] at b2
          obtain rfl := Option.some.inj b2
          rw [lack_names t.names] at b4 b7
          have hsame := t.same.made (nx := nx) t.p.hi.sorted t.r.rhs.2.sorted t.p.st.old r1.old a4 b4 (fun n hn => lackT_new a3 hn) (lackT_nodup l T)
          have hblk2 := putAll_blk t.r.rhs.2.sorted b4 r1.old t.blk2
          have hb2in := old_in (l := l2) t.r.rhs.2.sorted b4.1 (fun n hn => by rw [has_names t.names]; exact lackT_new a3 hn) (lackT_nodup l T) b5
          have ha2in := old_in (l := l) t.p.hi.sorted a4.1 (fun n hn => lackT_new a3 hn) (lackT_nodup l T) a5
          have hCC : C fb = C2 ib := t.same.same _ _ _ a5 b5
          have hTT := hsame.same _ _ _ a6 b6
          have s1 := hsame.set (x := ⟨(withNew w.heap.size nx ps C tb).v, (C fb).n, (C fb).ls⟩) a6 b6 (putAll_sorted ps l t.p.hi.sorted) (putAll_sorted ps2 l2 t.r.rhs.2.sorted) a7.hi.blk hblk2
          have s2 := s1.set (x := ⟨(C fb).v, (C fb).n, []⟩) ha2in hb2in (putAll_sorted ps l t.p.hi.sorted) (putAll_sorted ps2 l2 t.r.rhs.2.sorted) a7.hi.blk hblk2
          rw [← hCC, ← hTT] at b7
          exact ⟨mb, rm, rw, _, _, Wl, _, W, _, _, _, ⟨a7.st.tnD r1 td t.ne1 t.ne2, a7.hi⟩, b7, s2, t.wn, t.ne1, t.ne2, t.lowr, putAll_low t.r.rhs.2.sorted b4 hH1 t.lowb, hblk2⟩
        · rw [a1] at b1
          exact absurd (Option.some.inj b1).symm b2
      · rcases hren2 with ⟨T', b1, _⟩ | ⟨N', T', b1, b2, b3, b4, b5, b6, ps2, b7, b8⟩
        · rw [a1] at b1
          exact absurd (Option.some.inj b1) a2
        · rw [a1] at b1
          obtain rfl := Option.some.inj b1
          rw [a4] at b4
          obtain rfl := Option.some.inj b4
          rw [lack_names t.names] at b7 b8
          have hso := mvAll_sorted (t := T) (n := N) (mvList l2 N) l2 t.r.rhs.2.sorted
          have hml := mv_low2 (T := T) t.r.rhs.2.sorted t.wh2 b3 b5
          have hold : ∀ p ∈ mvAll T N (mvList l2 N) l2, p.2 < w1.heap.size := fun p hp => by
            obtain ⟨x, hx⟩ := hml p hp
            exact r1.old (x, p.2) hx
          refine ⟨mb, rm, rw, _, _, Wl, _, W, _, _, _, ⟨a8.st.tnD r1 td t.ne1 t.ne2, a8.hi⟩, b8, ?_, t.wn, t.ne1, t.ne2, t.lowr, putAll_low hso b7 hH1 (fun p hp => ?_), putAll_blk hso b7 hold (mv_blk2 t.r.rhs.2.sorted t.wh2 b3 b5 t.blk2)⟩
          · exact t.same.move t.p.hi.sorted t.r.rhs.2.sorted t.p.st.old r1.old t.p.hi.wh a3 a5 a6 a7 b7
          · obtain ⟨x, hx⟩ := hml p hp
            exact t.lowb (x, p.2) hx
theorem both_list (t : TwoAt H K hb mb rb rm rw l l2 Wl nx W C C2 wv w) (s : ByteArray) (y : Bool) (hs : s.size ≤ 900) :
    Calls Tryz.prog 29 #[.pointer (some ⟨hb, 0, none⟩), .string s, .bool y] w fun e w1 => ∃ v L, e = .returned v ∧ Sl w1 v L ∧ L.length ≤ 1000 ∧ Below w.heap.size w w1 ∧
      Calls Tryz.prog 47 #[.pointer (some ⟨rb, 0, none⟩), .string s, .bool y] w1 fun e2 w2 => ∃ v2, e2 = .returned v2 ∧ Sl w2 v2 L ∧ Below w1.heap.size w1 w2 := by
  have hlen := t.p.hi.len
  have hwl := t.p.hi.wlen
  have hwl2 := t.wlen2
  have hl2 := t.len2
  refine (list_p H K hb mb l nx W C wv s y w t.p (by omega)).mono ?_
  rintro e w1 ⟨⟨v, rfl, h1⟩, hb1⟩
  have t1 := t.below hb1
  refine ⟨v, _, rfl, h1, ?_, hb1, ?_⟩
  · refine Nat.le_trans (List.length_filter_le _ _) ?_
    split
    · omega
    · unfold namesB; rw [List.length_map]; omega
  · refine (rlist_is rb rm rw l2 Wl nx s y w1 t1.r.rhs t1.r.wm (by omega) (by omega) (fun p hp => by have := t1.short2 p hp; omega) (fun p hp => ?_) hs).mono ?_
    · have h2 : p.1 ∈ namesB Wl := List.mem_map_of_mem hp
      rw [t.wn] at h2
      have := nameB_len60 (t.p.hi.wnm _ h2)
      omega
    · rw [t.wn, t.names]
      rintro e2 w2 ⟨⟨v2, rfl, h2⟩, hb2⟩
      exact ⟨v2, rfl, sl_of_nrow h2, hb2⟩
end
end Go.Proofs.YtfdlopimncodcaaGreatDoor
namespace Go.Proofs.YtfdlopimncodcaaGreatDoor
open Go.RowKit Go.Proofs.Aid Go.Proofs.Bx
set_option maxHeartbeats 4000000 in
set_option maxRecDepth 100000 in
theorem get_p (nB : Nm → Option Nm) (hb mb : Nat) (l : Bxs) (nx : Int) (wv : Value) (s : ByteArray) (w : World) (hN : NameC nB w) (h : HsAt w hb mb l nx wv) (hs : s.size ≤ 1000) :
    Calls Tryz.prog 31 #[.pointer (some ⟨hb, 0, none⟩), .string s] w fun e w' => Below w.heap.size w w' ∧
      ((∃ r b, nB s.data.toList = some r ∧ (r, b) ∈ l ∧ e = .returned (.tuple #[.pointer (some ⟨b, 0, none⟩), .nilIface])) ∨ (∃ r, nB s.data.toList = some r ∧ hasB l r = false ∧ e = .returned (.tuple #[.pointer none, errN 7])) ∨ (nB s.data.toList = none ∧ e = .returned (.tuple #[.pointer none, errN 1]))) := by
  have cT := there_is nB hb mb l nx wv s w hN h hs
  have HH : Hid (HsAt w hb mb l nx wv) := h
  clear hN h
  go_enter Tryz.func31, Tryz.ntmps31
  go_wp2_with fail
  refine cT.mono ?_
  rintro e w1 ⟨hb1, ⟨r, hr, hr2, hr3, rfl⟩ | ⟨r, hr, hr3, rfl⟩ | ⟨hr, rfl⟩⟩
  · have h1 := HH.out.below hb1 (Nat.le_refl _)
    obtain ⟨b, hb⟩ := hasB_true.1 hr3
    have hlk := mp_look h1.2 r (by omega) (b := b) hb
    have c0 := h1.cell.1
    have HR : Hid (Below w.heap.size w w1 ∧ nB s.data.toList = some r.data.toList ∧ (r.data.toList, b) ∈ l) := ⟨hb1, hr, hb⟩
    clear cT hr hr3 hb1 h1 hb
    go_wp2_with fail
    go_ret2
    exact ⟨HR.out.1, Or.inl ⟨_, b, HR.out.2.1, HR.out.2.2, rfl⟩⟩
  · have HR : Hid (Below w.heap.size w w1 ∧ nB s.data.toList = some r.data.toList ∧ hasB l r.data.toList = false) := ⟨hb1, hr, hr3⟩
    clear cT hr hr3 hb1
    go_wp2_with fail
    go_ret2
    exact ⟨HR.out.1, Or.inr (Or.inl ⟨_, HR.out.2.1, HR.out.2.2, rfl⟩)⟩
  · have HR : Hid (Below w.heap.size w w1 ∧ nB s.data.toList = none) := ⟨hb1, hr⟩
    clear cT hr hb1
    go_wp2_with fail
    go_ret2
    exact ⟨HR.out.1, Or.inr (Or.inr ⟨HR.out.2, rfl⟩)⟩
section
variable {H K hb mb rb rm rq : Nat} {l l2 Wl : Bxs} {nx : Int} {W : List Nm} {C C2 : Nat → Bxd} {wv : Value} {w : World}
theorem rset_nil (w : World) : Calls Tryz.prog 98 #[.slice none 0 0] w fun e w' => RSetOut w ([], 0) e w' := by
  have h := ref_set (.slice none 0 0) [] w ⟨none, 0, rfl, ⟨fun _ => rfl, Nat.le_refl _⟩, Or.inl rfl⟩ (by simp) (fun t ht => absurd ht List.not_mem_nil)
  rw [setOk_setOf setOk_nil] at h
  exact h
theorem both_append (t : TwoAt H K hb mb rb rm rq l l2 Wl nx W C C2 wv w) (hK : K ≤ 90) (n : Nm) (b b2 : Nat) (x : ByteArray) (hx : x.size ≤ 100) (h1 : (n, b) ∈ l) (h2 : (n, b2) ∈ l2) :
    Calls Tryz.prog 49 #[.pointer (some ⟨b2, 0, none⟩), .slice none 0 0, .int .i64 1, .string x] w fun e w1 => ∃ u c : Int, e = .returned (.tuple #[.int .i64 u, .int .i64 c]) ∧ Below H w w1 ∧ KeepK w w1 ∧
      Calls Tryz.prog 50 #[.pointer (some ⟨b, 0, none⟩), .slice none 0 0, .int .i64 1, .string x] w1 fun e2 w2 => e2 = .returned (.tuple #[.int .i64 u, errV c]) ∧ Below H w1 w2 ∧ KeepK w1 w2 ∧ Two H (K + 1) hb rb w2 := by
  have hsame := t.same.same n b b2 h1 h2
  have g := t.p.hi.bx _ h1
  have g0 : 1 ≤ (C b).n := g.inv.next
  have g1 : (C b).n ≤ (K : Int) + 1 := g.next
  have g2 : (C b).ls.length ≤ 60 := g.most
  obtain ⟨lv, hB⟩ := t.r.bx _ h2
  have hB : RBox w b2 (C b).v (C b).n lv (C b).ls := by rw [hsame]; exact hB
  refine (rappend_is b2 (C b).v (C b).n 1 lv (C b).ls (.slice none 0 0) ([], 0) x w hB (by omega) ⟨by omega, by omega⟩ (rset_nil w)).mono ?_
  rintro e w1 (⟨c1, rfl, c3⟩ | ⟨c1, rfl, ⟨lv', c3, _⟩, c4⟩)
  · have t1 := t.below c3
    refine ⟨0, _, rfl, c3.mono t.p.st.h0, KeepK.of c3, ?_⟩
    refine (box_append b (C b).v (C b).n 1 (C b).ls (.slice none 0 0) ([], 0) x w1 (t1.p.st.hse.bx _ h1) (by omega) ⟨by omega, by omega⟩ (set_nil w1)).mono ?_
    rintro e2 w2 (⟨_, rfl, d3⟩ | ⟨d1, _⟩)
    · exact ⟨by rw [errV_ne c1], d3.mono t1.p.st.h0, KeepK.of d3, _, _, _, _, _, _, _, _, _, _, _, (t1.below d3).more (Nat.le_succ K)⟩
    · exact absurd d1 c1
  · have td : Tn (DS rb rm rq l2) w w1 := Tn.but c4 (Or.inr (Or.inr (Or.inr ⟨_, h2, rfl⟩)))
    have r1 : RSt w1 rb rm rq l2 Wl nx (setC C2 b2 ⟨(C b).v, (C b).n + 1, (C b).ls ++ [⟨(C b).n, [], 1, x.data.toList⟩]⟩) := t.r.boxed h2 c3 c4
    have p1 : Hst H hb mb l nx W C wv w1 := t.p.st.tnD t.r td t.ne1 t.ne2
    refine ⟨_, 0, rfl, td.lowD t.lowr t.lowb t.p.st.h0, keep_ds t.r td, ?_⟩
    refine (box_append b (C b).v (C b).n 1 (C b).ls (.slice none 0 0) ([], 0) x w1 (p1.hse.bx _ h1) (by omega) ⟨by omega, by omega⟩ (set_nil w1)).mono ?_
    rintro e2 w2 (⟨d1, _⟩ | ⟨_, rfl, d3, d4⟩)
    · exact absurd c1 d1
    · have hl : (C b).ls.length < 60 := by
        unfold appE at c1
        by_cases q1 : 2000 < x.size
        · rw [if_pos q1] at c1; cases c1
        · rw [if_neg q1, if_neg (by simp), if_neg (by omega)] at c1
          by_cases q2 : 60 ≤ (C b).ls.length ∨ 2147483647 ≤ (C b).n
          · rw [if_pos q2] at c1; cases c1
          · omega
      have tp : Tn (PS hb mb wv l) w1 w2 := Tn.but d4 (Or.inr (Or.inr (Or.inr ⟨_, h1, rfl⟩)))
      have hf : ∀ p ∈ l2, ∀ y ∈ (setC C2 b2 ⟨(C b).v, (C b).n + 1, (C b).ls ++ [⟨(C b).n, [], 1, x.data.toList⟩]⟩ p.2).ls, y.flags = [] := fun p hp y hy => by
        by_cases e : p.2 = b2
        · rw [e, setC_same] at hy
          rcases List.mem_append.1 hy with q | q
          · exact (g.plain y q).1
          · rw [List.mem_singleton.1 q]
        · rw [setC_other e] at hy
          exact t.flags p hp y hy
      refine ⟨by rw [errV_zero], d4.below p1.h0 (t.p.hi.low _ h1), keep_ps p1 tp, mb, rm, rq, l, l2, Wl, nx, W, _, _, wv, ⟨p1.boxed (x := ⟨(C b).v, (C b).n + 1, (C b).ls ++ [⟨(C b).n, [], 1, x.data.toList⟩]⟩) h1 d3 d4, t.p.hi.box (by omega) h1 rfl (good_append g (by rw [Array.length_toList]; exact hx) hl)⟩, r1.tnP p1 hf tp t.ne1 t.ne2, t.same.set h1 h2 t.p.hi.sorted t.r.rhs.2.sorted t.p.hi.blk t.blk2, t.wn, t.ne1, t.ne2, t.lowr, t.lowb, t.blk2⟩
end
end Go.Proofs.YtfdlopimncodcaaGreatDoor
namespace Go.Proofs.YtfdlopimncodcaaGreatDoor
open Go.RowKit Go.Extern.Stop Go.Stop Go.Extern
theorem Tryz.valueOf70 (t : Addr) (w : World) : (ReflectliteValue.unpack (.iface 131 (.pointer (some t)))).run Tryz.prog w
    = .ok (.agg #[.pointer (some ⟨8, 131, none⟩), .pointer (some ⟨w.heap.size, 0, none⟩), .int .u64 150]) (w.alloc (.cells #[.pointer (some t)] 131)) := by kernel_rfl
theorem Tryz.type70 (a : Addr) (w : World) : (ReflectliteValue.methodAny (ReflectliteValue.valueError "reflectlite.Value.Type" 0) (fun t _ _ _ => ReflectliteType.toType t) #[.agg #[.pointer (some ⟨8, 131, none⟩), .pointer (some a), .int .u64 150]]).run Tryz.prog w
    = .ok (.iface 202 (.agg #[.pointer (some ⟨8, 131, none⟩)])) w := by kernel_rfl
theorem Tryz.methodKind (h : Value) (w : World) : (Go.method 393 202 (.agg #[h]) "Kind").run Tryz.prog w = .ok (246, h) w := by kernel_rfl
theorem Tryz.kind70 (w : World) : ((ReflectliteType.abiMethod fun t => (fun a : Nat => Value.int IntKind.u8 (a : Int)) <$> Rtype.kind t) #[.pointer (some ⟨8, 131, none⟩)]).run Tryz.prog w = .ok (.int .u8 22) w := by kernel_rfl
theorem Tryz.kind22 (w : World) : ((ReflectliteType.abiMethod fun t => (fun a : Nat => Value.int IntKind.u8 (a : Int)) <$> Rtype.kind t) #[.pointer (some ⟨8, 42, none⟩)]).run Tryz.prog w = .ok (.int .u8 2) w := by kernel_rfl
theorem Tryz.parts70 (a : Addr) (w : World) : (ReflectliteValue.parts (.agg #[.pointer (some ⟨8, 131, none⟩), .pointer (some a), .int .u64 150])).run Tryz.prog w = .ok (some (131, a, 150)) w := by kernel_rfl
theorem Tryz.isNil70 (a p : Addr) (W : World) (ha : W.cell? a = some (.pointer (some p))) :
    (ReflectliteValue.method (ReflectliteValue.valueError "reflectlite.Value.IsNil" 0) ReflectliteValue.isNil #[.agg #[.pointer (some ⟨8, 131, none⟩), .pointer (some a), .int .u64 150]]).run Tryz.prog W = .ok (.bool false) W := by
  show (Bind.bind (ReflectliteValue.parts (.agg #[.pointer (some ⟨8, 131, none⟩), .pointer (some a), .int .u64 150])) _).run Tryz.prog W = _
  simp only [Sem.run_bind, Tryz.parts70, Result.andThen]
  simp [ReflectliteValue.isNil, loadVar, isAgg, underlying, Tryz.underlying131, ha, Result.andThen]
theorem Tryz.methodElem (h : Value) (w : World) : (Go.method 393 202 (.agg #[h]) "Elem").run Tryz.prog w = .ok (262, .agg #[h]) w := by kernel_rfl
theorem Tryz.methodAssignableTo (h : Value) (w : World) : (Go.method 393 202 (.agg #[h]) "AssignableTo").run Tryz.prog w = .ok (260, .agg #[h]) w := by kernel_rfl
theorem Tryz.elem70 (w : World) : (ReflectliteType.method ReflectliteType.elem #[.agg #[.pointer (some ⟨8, 131, none⟩)]]).run Tryz.prog w = .ok (.iface 202 (.agg #[.pointer (some ⟨8, 42, none⟩)])) w := by kernel_rfl
theorem Tryz.methodImplements (h : Value) (w : World) : (Go.method 393 202 (.agg #[h]) "Implements").run Tryz.prog w = .ok (263, .agg #[h]) w := by kernel_rfl
theorem Tryz.implements22 (w : World) : (ReflectliteType.relation "Implements" ReflectliteType.implements_ #[.agg #[.pointer (some ⟨8, 42, none⟩)], .iface 202 (.agg #[.pointer (some ⟨8, 38, none⟩)])]).run Tryz.prog w = .ok (.bool true) w := by kernel_rfl
theorem Tryz.typeOf22 (v : Value) (w : World) : (ReflectliteType.typeOf #[.iface 42 v]).run Tryz.prog w = .ok (.iface 202 (.agg #[.pointer (some ⟨8, 42, none⟩)])) w := by kernel_rfl
theorem Tryz.assignable22 (w : World) : (ReflectliteType.relation "AssignableTo" ReflectliteType.assignableTo #[.agg #[.pointer (some ⟨8, 42, none⟩)], .iface 202 (.agg #[.pointer (some ⟨8, 42, none⟩)])]).run Tryz.prog w = .ok (.bool true) w := by kernel_rfl
theorem Tryz.valueOf22 (n : Int) (w : World) : (ReflectliteValue.unpack (.iface 42 (.int .i64 n))).run Tryz.prog w
    = .ok (.agg #[.pointer (some ⟨8, 42, none⟩), .pointer (some ⟨w.heap.size, 0, none⟩), .int .u64 130]) (w.alloc (.cells #[.int .i64 n] 42)) := by kernel_rfl
theorem Tryz.elemOf70 (w : World) : (Rtype.elem? 131).run Tryz.prog w = .ok (some 42) w := by kernel_rfl
theorem Tryz.mk22 (p : Addr) (w : World) : (ReflectliteValue.mk 42 p ReflectliteValue.flagAddr).run Tryz.prog w = .ok (.agg #[.pointer (some ⟨8, 42, none⟩), .pointer (some p), .int .u64 386]) w := by kernel_rfl
theorem Tryz.elemV70 (a p : Addr) (W : World) (ha : W.cell? a = some (.pointer (some p))) :
    (ReflectliteValue.method (ReflectliteValue.valueError "reflectlite.Value.Elem" 0) ReflectliteValue.elem #[.agg #[.pointer (some ⟨8, 131, none⟩), .pointer (some a), .int .u64 150]]).run Tryz.prog W
      = .ok (.agg #[.pointer (some ⟨8, 42, none⟩), .pointer (some p), .int .u64 386]) W := by
  show (Bind.bind (ReflectliteValue.parts (.agg #[.pointer (some ⟨8, 131, none⟩), .pointer (some a), .int .u64 150])) _).run Tryz.prog W = _
  simp only [Sem.run_bind, Tryz.parts70, Result.andThen]
  simp [ReflectliteValue.elem, loadVar, isAgg, underlying, Tryz.underlying131, ha, Result.andThen, Tryz.elemOf70, Tryz.mk22]
theorem Tryz.parts22a (a : Addr) (w : World) : (ReflectliteValue.parts (.agg #[.pointer (some ⟨8, 42, none⟩), .pointer (some a), .int .u64 386])).run Tryz.prog w = .ok (some (42, a, 386)) w := by kernel_rfl
theorem Tryz.parts22 (a : Addr) (w : World) : (ReflectliteValue.parts (.agg #[.pointer (some ⟨8, 42, none⟩), .pointer (some a), .int .u64 130])).run Tryz.prog w = .ok (some (42, a, 130)) w := by kernel_rfl
theorem Tryz.direct22 (w : World) : (Rtype.directlyAssignable 42 42).run Tryz.prog w = .ok true w := by kernel_rfl
end Go.Proofs.YtfdlopimncodcaaGreatDoor
