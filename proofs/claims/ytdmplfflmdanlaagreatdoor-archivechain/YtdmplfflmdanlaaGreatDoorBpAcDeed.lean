/-
  A deed, whatever it is: what holds behind it, and which blocks it turn, and more.
-/
import Derived.Test.YtdmplfflmdanlaaGreatDoorBpHpRen
import Derived.Lib.AtoiAll
import Derived.Shelf.LaysC
import Derived.Shelf.Strconv.AtoiAll
import Derived.Shelf.Strings.Cut
namespace Go.Proofs.YtdmplfflmdanlaaGreatDoor
open Go.RowKit Go.Proofs.Aid Go.Proofs.Bx

/-- What a deed leaves: a house with all that holds of it; nothing turned but the house's own blocks, which are the elder ones, or new. -/
def DeedO (H hb mb K : Nat) (S : Nat → Prop) (w : World) (e : Ending) (w' : World) : Prop :=
  (∃ v, e = .returned v) ∧ Tn S w w' ∧ Below H w w' ∧ ∃ l' nx' W' C' wv', PH H (K + 1) hb mb l' nx' W' C' wv' w' ∧ ∀ k, PS hb mb wv' l' k → S k ∨ w.heap.size ≤ k
theorem DeedO.before {H hb mb K : Nat} {S : Nat → Prop} {w w1 w' : World} {e : Ending} (hb' : Below w.heap.size w w1) (h0 : H ≤ w.heap.size) (h : DeedO H hb mb K S w1 e w') : DeedO H hb mb K S w e w' := by
  obtain ⟨h1, h2, h3, l', nx', W', C', wv', h4, h5⟩ := h
  exact ⟨h1, (Tn.of hb').trans h2, (hb'.mono h0).trans h3, l', nx', W', C', wv', h4, fun k hk => (h5 k hk).imp id fun q => Nat.le_trans hb'.size q⟩
theorem DeedO.same {H hb mb K : Nat} {l : Bxs} {nx : Int} {W : List Nm} {C : Nat → Bxd} {wv v : Value} {w w' : World} (h : PH H K hb mb l nx W C wv w) (hb' : Below w.heap.size w w') : DeedO H hb mb K (PS hb mb wv l) w (.returned v) w' :=
  ⟨⟨_, rfl⟩, Tn.of hb', hb'.mono h.st.h0, l, nx, W, C, wv, (h.below hb').more (Nat.le_succ K), fun _ hk => Or.inl hk⟩
theorem DeedO.err {H hb mb K : Nat} {l : Bxs} {nx : Int} {W : List Nm} {C : Nat → Bxd} {wv : Value} {w w' : World} {c : Int} {e : Ending} (h0 : H ≤ w.heap.size) (h : ErrP H K hb mb l nx W C wv w c e w') : DeedO H hb mb K (PS hb mb wv l) w e w' := by
  obtain ⟨_, h2, h3, h4⟩ := h
  exact ⟨⟨_, h2⟩, Tn.of h3, h3.mono h0, l, nx, W, C, wv, h4, fun _ hk => Or.inl hk⟩
/-- Blocks of a house whose boxes are elder ones, or new. -/
theorem ps_from {hb mb B : Nat} {wv : Value} {l l' : Bxs} (h : ∀ p ∈ l', (∃ q ∈ l, q.2 = p.2) ∨ B ≤ p.2) : ∀ k, PS hb mb wv l' k → PS hb mb wv l k ∨ B ≤ k := by
  rintro k (e | e | e | ⟨p, hp, e⟩)
  · exact Or.inl (Or.inl e)
  · exact Or.inl (Or.inr (Or.inl e))
  · exact Or.inl (Or.inr (Or.inr (Or.inl e)))
  · rcases h p hp with ⟨q, hq, e2⟩ | h2
    · exact Or.inl (Or.inr (Or.inr (Or.inr ⟨q, hq, e2.trans e⟩)))
    · exact Or.inr (e ▸ h2)
theorem put_from {B : Nat} {ns : List Nm} {l ps : Bxs} (hs : SortedB l) (hm : Made B ns ps) : ∀ p ∈ putAll l ps, (∃ q ∈ l, q.2 = p.2) ∨ B ≤ p.2 := fun p hp => by
  rcases mem_putAll ps l hs hp with h | h
  · exact Or.inl ⟨p, h, rfl⟩
  · obtain ⟨j, hj⟩ := List.getElem?_of_mem h
    exact Or.inr (hm.2.1 j p hj)
theorem create_d (H hb mb K : Nat) (l : Bxs) (nx : Int) (W : List Nm) (C : Nat → Bxd) (wv : Value) (s : ByteArray) (w : World) (hE : NEnv w) (h : PH H K hb mb l nx W C wv w) (hK : K ≤ 400) (hs : s.size ≤ 1000) :
    Calls Tryz.prog 73 #[.pointer (some ⟨hb, 0, none⟩), .string s] w fun e w' => DeedO H hb mb K (PS hb mb wv l) w e w' :=
  (create_p H hb mb K l nx W C wv s w hE h hK hs).mono fun e w' hp => by
    rcases hp with hp | ⟨_, h2, h3, h4, r, ps, _, _, h7, h8⟩
    · exact .err h.st.h0 hp
    · exact ⟨⟨_, h2⟩, h3, h4, _, _, _, _, _, h8, ps_from (put_from h.hi.sorted h7)⟩
theorem delete_d (H hb mb K : Nat) (l : Bxs) (nx : Int) (W : List Nm) (C : Nat → Bxd) (wv : Value) (s : ByteArray) (w : World) (hE : NEnv w) (h : PH H K hb mb l nx W C wv w) (hs : s.size ≤ 1000) :
    Calls Tryz.prog 74 #[.pointer (some ⟨hb, 0, none⟩), .string s] w fun e w' => DeedO H hb mb K (PS hb mb wv l) w e w' :=
  (delete_p H hb mb K l nx W C wv s w hE h hs).mono fun e w' hp => by
    rcases hp with hp | ⟨_, h2, h3, h4, r, _, h8⟩
    · exact .err h.st.h0 hp
    · exact ⟨⟨_, h2⟩, h3, h4, _, _, _, _, _, h8, ps_from fun p hp => Or.inl ⟨p, (mem_delB.1 hp).2, rfl⟩⟩
theorem rename_d (H hb mb K : Nat) (l : Bxs) (nx : Int) (W : List Nm) (C : Nat → Bxd) (a : Option Addr) (wn wc : Nat) (s u : ByteArray) (w : World) (hE : NEnv w) (h : PH H K hb mb l nx W C (.slice a wn wc) w) (hK : K ≤ 400) (hs : s.size ≤ 1000) (hu : u.size ≤ 1000) :
    Calls Tryz.prog 75 #[.pointer (some ⟨hb, 0, none⟩), .string s, .string u] w fun e w' => DeedO H hb mb K (PS hb mb (.slice a wn wc) l) w e w' :=
  (rename_p H hb mb K l nx W C a wn wc s u w hE h hK hs hu).mono fun e w' hp => by
    rcases hp with hp | ⟨_, h2, h3, h4, ⟨T, _, _, _, ps, fb, tb, h7, _, _, h8⟩ | ⟨N, T, _, _, q1, _, q2, q3, ps, h7, h8⟩⟩
    · exact .err h.st.h0 hp
    · exact ⟨⟨_, h2⟩, h3, h4, _, _, _, _, _, h8, ps_from (put_from h.hi.sorted h7)⟩
    · refine ⟨⟨_, h2⟩, h3, h4, _, _, _, _, _, h8, ps_from fun p hp => ?_⟩
      rcases ((move_mem h.hi.sorted h.hi.wh q1 q2 q3 h7.1).2 p.1 p.2).1 hp with ⟨r1, _⟩ | ⟨x, _, r1, _⟩
      · exact put_from h.hi.sorted h7 _ r1
      · exact put_from h.hi.sorted h7 (x, p.2) r1
theorem want_d (H hb mb K : Nat) (l : Bxs) (nx : Int) (W : List Nm) (C : Nat → Bxd) (wv : Value) (s : ByteArray) (y : Bool) (w : World) (hE : NEnv w) (h : PH H K hb mb l nx W C wv w) (hs : s.size ≤ 1000) :
    Calls Tryz.prog 76 #[.pointer (some ⟨hb, 0, none⟩), .string s, .bool y] w fun e w' => DeedO H hb mb K (PS hb mb wv l) w e w' :=
  (want_p H hb mb K l nx W C wv s y w hE h hs).mono fun e w' hp => by
    rcases hp with hp | ⟨_, h2, h3, h4, r, W', wv', _, _, h8, h9⟩
    · exact .err h.st.h0 hp
    · refine ⟨⟨_, h2⟩, h3, h4, _, _, _, _, _, h8, ?_⟩
      rintro k (e | e | e | e)
      · exact Or.inl (Or.inl e)
      · exact Or.inl (Or.inr (Or.inl e))
      · exact (h9 k e).imp (fun q => Or.inr (Or.inr (Or.inl q))) id
      · exact Or.inl (Or.inr (Or.inr (Or.inr e)))
theorem append_d (H hb mb K : Nat) (l : Bxs) (nx : Int) (W : List Nm) (C : Nat → Bxd) (wv : Value) (b : Nat) (n : Nm) (t : ByteArray) (w : World) (h : PH H K hb mb l nx W C wv w) (hK : K ≤ 400) (ht : t.size ≤ 100) (hp : (n, b) ∈ l) :
    Calls Tryz.prog 78 #[.pointer (some ⟨b, 0, none⟩), .slice none 0 0, .int .i64 1, .string t] w fun e w' => ∃ x y, e = .returned (.tuple #[x, y]) ∧ DeedO H hb mb K (PS hb mb wv l) w (.returned y) w' := by
  have g := h.hi.bx _ hp
  have g0 : 1 ≤ (C b).n := g.inv.next
  have g1 : (C b).n ≤ (K : Int) + 1 := g.next
  have g2 : (C b).ls.length ≤ 60 := g.most
  refine (box_append b (C b).v (C b).n 1 (C b).ls (.slice none 0 0) ([], 0) t w (h.st.hse.bx _ hp) (by omega) ⟨by omega, by omega⟩ (set_nil w)).mono ?_
  rintro e w' (⟨_, rfl, c3⟩ | ⟨c1, rfl, c3, c4⟩)
  · exact ⟨_, _, rfl, .same h c3⟩
  · have hl : (C b).ls.length < 60 := by
      unfold appE at c1
      by_cases q1 : 2000 < t.size
      · rw [if_pos q1] at c1; cases c1
      · rw [if_neg q1, if_neg (by simp), if_neg (by omega)] at c1
        by_cases q2 : 60 ≤ (C b).ls.length ∨ 2147483647 ≤ (C b).n
        · rw [if_pos q2] at c1; cases c1
        · omega
    refine ⟨_, _, rfl, ⟨_, rfl⟩, Tn.but c4 (Or.inr (Or.inr (Or.inr ⟨_, hp, rfl⟩))), c4.below h.st.h0 (h.hi.low _ hp), l, nx, W, _, wv, ⟨h.st.boxed (x := ⟨(C b).v, (C b).n + 1, (C b).ls ++ [⟨(C b).n, [], 1, t.data.toList⟩]⟩) hp c3 c4, h.hi.box (by omega) hp rfl (good_append g (by rw [Array.length_toList]; exact ht) hl)⟩, fun _ hk => Or.inl hk⟩
theorem get_d (hb mb : Nat) (l : Bxs) (nx : Int) (wv : Value) (s : ByteArray) (w : World) (hE : NEnv w) (h : HsAt w hb mb l nx wv) (hs : s.size ≤ 1000) :
    Calls Tryz.prog 77 #[.pointer (some ⟨hb, 0, none⟩), .string s] w fun e w' => Below w.heap.size w w' ∧
      ((∃ r b, (r, b) ∈ l ∧ e = .returned (.tuple #[.pointer (some ⟨b, 0, none⟩), .nilIface])) ∨ ∃ E, e = .returned (.tuple #[.pointer none, errN E])) :=
  (get_is nameB hb mb l nx wv s w (nameC hE) h hs).mono fun _ _ ⟨h1, h2⟩ => ⟨h1, h2.imp (fun ⟨r, b, _, q2, q3⟩ => ⟨r, b, q2, q3⟩) fun ⟨E, _, q⟩ => ⟨E, q⟩⟩
set_option maxHeartbeats 4000000 in
set_option maxRecDepth 100000 in
theorem deed_d (H hb mb K : Nat) (l : Bxs) (nx : Int) (W : List Nm) (C : Nat → Bxd) (wv : Value) (k : Int) (s t : ByteArray) (y : Bool) (w : World) (hE : NEnv w) (h : PH H K hb mb l nx W C wv w) (hK : K ≤ 400) (hs : s.size ≤ 100) (ht : t.size ≤ 100) :
    Calls Tryz.prog 22 #[.pointer (some ⟨hb, 0, none⟩), .agg #[.int .i64 k, .string s, .string t, .bool y]] w fun e w' => DeedO H hb mb K (PS hb mb wv l) w e w' := by
  have b1 : Below w.heap.size w (w.alloc (.cells #[.int .i64 k, .string s, .string t, .bool y] 60)) := (Below.refl _ _).alloc (Nat.le_refl _) _
  have e1 := heap_alloc_new w (.cells #[.int .i64 k, .string s, .string t, .bool y] 60)
  obtain ⟨W1, hW1⟩ : ∃ W, w.alloc (.cells #[.int .i64 k, .string s, .string t, .bool y] 60) = W := ⟨_, rfl⟩
  rw [hW1] at b1 e1
  obtain ⟨S, hS⟩ : ∃ S, PS hb mb wv l = S := ⟨_, rfl⟩
  rw [hS]
  have HL : Hid (∀ e w3, DeedO H hb mb K S W1 e w3 → DeedO H hb mb K S w e w3) := fun e w3 h3 => h3.before b1 h.st.h0
  have hX := h.below b1
  have hE1 := hE.below b1
  have r0 : W1.cell? ⟨w.heap.size, 0, none⟩ = some (.int .i64 k) := rd_cell e1 rfl
  have r1 : W1.cell? ⟨w.heap.size, 1, none⟩ = some (.string s) := rd_cell e1 rfl
  have r2 : W1.cell? ⟨w.heap.size, 2, none⟩ = some (.string t) := rd_cell e1 rfl
  have r3 : W1.cell? ⟨w.heap.size, 3, none⟩ = some (.bool y) := rd_cell e1 rfl
  have e1' : Hid (W1.heap[w.heap.size]? = some (.cells #[.int .i64 k, .string s, .string t, .bool y] 60 (0, 0))) := e1
  obtain ⟨a, c, hwv⟩ := h.st.form
  obtain ⟨M, hM⟩ : ∃ m, W.length = m := ⟨_, rfl⟩
  rw [hM] at hwv
  subst hwv
  have HS : Hid (PS hb mb (.slice a M c) l = S) := hS
  clear h hE b1 e1 hS
  by_cases k0 : k = 0
  · subst k0
    have cC := create_d H hb mb K l nx W C _ s W1 hE1 hX (by omega) (by omega)
    rw [HS.out] at cC
    clear hX hE1
    go_enter Tryz.func22, Tryz.ntmps22
    go_wp2_with fail
    refine cC.mono ?_
    rintro e w2 hO
    have HF : Hid (DeedO H hb mb K S w e w2) := HL.out e w2 hO
    obtain ⟨v, rfl⟩ := hO.1
    clear cC hO
    go_wp2_with fail
    go_ret
    exact HF.out
  · have d0 : (k == 0) = false := beq_eq_false_iff_ne.2 k0
    by_cases k1 : k = 1
    · subst k1
      have cC := delete_d H hb mb K l nx W C _ s W1 hE1 hX (by omega)
      rw [HS.out] at cC
      clear hX hE1
      go_enter Tryz.func22, Tryz.ntmps22
      go_wp2_with fail
      refine cC.mono ?_
      rintro e w2 hO
      have HF : Hid (DeedO H hb mb K S w e w2) := HL.out e w2 hO
      obtain ⟨v, rfl⟩ := hO.1
      clear cC hO
      go_wp2_with fail
      go_ret
      exact HF.out
    · have d1 : (k == 1) = false := beq_eq_false_iff_ne.2 k1
      by_cases k2 : k = 2
      · subst k2
        have cC := rename_d H hb mb K l nx W C a M c s t W1 hE1 hX (by omega) (by omega) (by omega)
        rw [HS.out] at cC
        clear hX hE1
        go_enter Tryz.func22, Tryz.ntmps22
        go_wp2_with fail
        refine cC.mono ?_
        rintro e w2 hO
        have HF : Hid (DeedO H hb mb K S w e w2) := HL.out e w2 hO
        obtain ⟨v, rfl⟩ := hO.1
        clear cC hO
        go_wp2_with fail
        go_ret
        exact HF.out
      · have d2 : (k == 2) = false := beq_eq_false_iff_ne.2 k2
        by_cases k3 : k = 3
        · subst k3
          have cC := want_d H hb mb K l nx W C _ s y W1 hE1 hX (by omega)
          rw [HS.out] at cC
          clear hX hE1
          go_enter Tryz.func22, Tryz.ntmps22
          go_wp2_with fail
          refine cC.mono ?_
          rintro e w2 hO
          have HF : Hid (DeedO H hb mb K S w e w2) := HL.out e w2 hO
          obtain ⟨v, rfl⟩ := hO.1
          clear cC hO
          go_wp2_with fail
          go_ret
          exact HF.out
        · have d3 : (k == 3) = false := beq_eq_false_iff_ne.2 k3
          by_cases k4 : k = 4
          · subst k4
            have cG := get_d hb mb l nx _ s W1 hE1 hX.st.hse.hs (by omega)
            have HX : Hid (PH H K hb mb l nx W C (.slice a M c) W1) := hX
            clear hX hE1
            go_enter Tryz.func22, Tryz.ntmps22
            go_wp2_with fail
            refine cG.mono ?_
            rintro e w2 ⟨hb2, ⟨n, b, hp, rfl⟩ | ⟨E, rfl⟩⟩
            · have r2' : w2.cell? ⟨w.heap.size, 2, none⟩ = some (.string t) := (hb2.cell (p := ⟨w.heap.size, 2, none⟩) (Array.getElem?_eq_some_iff.1 e1'.out).1).trans r2
              have cA := append_d H hb mb K l nx W C _ b n t w2 (HX.out.below hb2) hK ht hp
              rw [HS.out] at cA
              have HB : Hid (∀ e w3, DeedO H hb mb K S w2 e w3 → DeedO H hb mb K S w e w3) := fun e w3 h3 => HL.out e w3 (h3.before hb2 HX.out.st.h0)
              clear cG hb2
              go_wp2_with fail
              refine cA.mono ?_
              rintro e w3 ⟨x, v, rfl, hO⟩
              have HF : Hid (DeedO H hb mb K S w (.returned v) w3) := HB.out _ w3 hO
              clear cA hO
              go_wp2_with fail
              go_ret
              exact HF.out
            · have HF : Hid (DeedO H hb mb K S w (.returned (errN E)) w2) := HL.out _ w2 (by rw [← HS.out]; exact .same HX.out hb2)
              clear cG hb2
              go_wp2_with fail
              go_ret
              exact HF.out
          · have d4 : (k == 4) = false := beq_eq_false_iff_ne.2 k4
            have HF : Hid (DeedO H hb mb K S w (.returned .nilIface) W1) := HL.out _ W1 (by rw [← HS.out]; exact .same hX (Below.refl _ _))
            clear hX hE1
            go_enter Tryz.func22, Tryz.ntmps22
            go_wp2_with fail
            go_ret
            exact HF.out
end Go.Proofs.YtdmplfflmdanlaaGreatDoor
namespace Go.Proofs
open Go.Shelf
def Tryz.laysC172_ren : Go.Shelf.Ren := ⟨fun | 172 => 157 | 244 => 205 | 245 => 206 | 247 => 247 | 279 => 248 | 280 => 249 | 281 => 250 | 282 => 251 | 287 => 282 | 316 => 283 | 171 => 79 | 205 => 284 | 321 => 299 | 322 => 300 | 243 => 136 | 246 => 189 | 283 => 229 | 284 => 230 | 285 => 231 | 286 => 232 | 129 => 219 | 317 => 272 | 318 => 273 | 319 => 274 | 320 => 275 | 337 => 297 | 338 => 298 | n => n, fun | 9 => 9 | 3 => 3 | 75 => 38 | 76 => 140 | 4 => 4 | 5 => 5 | 167 => 269 | 37 => 86 | 0 => 0 | 85 => 270 | 2 => 2 | 168 => 272 | 53 => 243 | 175 => 302 | 46 => 193 | 210 => 305 | 127 => 158 | 145 => 318 | 143 => 316 | 21 => 21 | 171 => 248 | 173 => 250 | 212 => 289 | 51 => 220 | 20 => 20 | 213 => 290 | 232 => 322 | 233 => 323 | 80 => 95 | n => n, fun | 15 => 6 | 16 => 7 | 17 => 5 | 18 => 8 | 19 => 9 | n => n⟩
theorem Tryz.laysC172 : Go.Proofs.LaysC.n172 Tryz.prog Tryz.laysC172_ren := {
  mixed := by kernel_rfl
  f129 := Tryz.func219.trans (congrArg some (by kernel_rfl))
  f171 := Tryz.func79.trans (congrArg some (by kernel_rfl))
  f172 := Tryz.func157.trans (congrArg some (by kernel_rfl))
  f205 := Tryz.func284.trans (congrArg some (by kernel_rfl))
  f243 := Tryz.func136.trans (congrArg some (by kernel_rfl))
  f244 := Tryz.func205.trans (congrArg some (by kernel_rfl))
  f245 := Tryz.func206.trans (congrArg some (by kernel_rfl))
  f246 := Tryz.func189.trans (congrArg some (by kernel_rfl))
  f247 := Tryz.func247.trans (congrArg some (by kernel_rfl))
  f279 := Tryz.func248.trans (congrArg some (by kernel_rfl))
  f280 := Tryz.func249.trans (congrArg some (by kernel_rfl))
  f281 := Tryz.func250.trans (congrArg some (by kernel_rfl))
  f282 := Tryz.func251.trans (congrArg some (by kernel_rfl))
  f283 := Tryz.func229.trans (congrArg some (by kernel_rfl))
  f284 := Tryz.func230.trans (congrArg some (by kernel_rfl))
  f285 := Tryz.func231.trans (congrArg some (by kernel_rfl))
  f286 := Tryz.func232.trans (congrArg some (by kernel_rfl))
  f287 := Tryz.func282.trans (congrArg some (by kernel_rfl))
  f316 := Tryz.func283.trans (congrArg some (by kernel_rfl))
  f317 := Tryz.func272.trans (congrArg some (by kernel_rfl))
  f318 := Tryz.func273.trans (congrArg some (by kernel_rfl))
  f319 := Tryz.func274.trans (congrArg some (by kernel_rfl))
  f320 := Tryz.func275.trans (congrArg some (by kernel_rfl))
  f321 := Tryz.func299.trans (congrArg some (by kernel_rfl))
  f322 := Tryz.func300.trans (congrArg some (by kernel_rfl))
  f337 := Tryz.func297.trans (congrArg some (by kernel_rfl))
  f338 := Tryz.func298.trans (congrArg some (by kernel_rfl))
  t0 := Tryz.underlying0
  a0 := Tryz.isAgg0
  z0 := Tryz.sizeOf0
  v0 := Tryz.zeroValue0
  t2 := Tryz.underlying2
  a2 := Tryz.isAgg2
  z2 := Tryz.sizeOf2
  v2 := Tryz.zeroValue2
  t3 := Tryz.underlying3
  a3 := Tryz.isAgg3
  z3 := Tryz.sizeOf3
  v3 := Tryz.zeroValue3
  t4 := Tryz.underlying4
  a4 := Tryz.isAgg4
  z4 := Tryz.sizeOf4
  v4 := Tryz.zeroValue4
  t5 := Tryz.underlying5
  a5 := Tryz.isAgg5
  z5 := Tryz.sizeOf5
  v5 := Tryz.zeroValue5
  t9 := Tryz.underlying9
  a9 := Tryz.isAgg9
  z9 := Tryz.sizeOf9
  v9 := Tryz.zeroValue9
  t20 := Tryz.underlying20
  a20 := Tryz.isAgg20
  z20 := Tryz.sizeOf20
  v20 := Tryz.zeroValue20
  t21 := Tryz.underlying21
  a21 := Tryz.isAgg21
  z21 := Tryz.sizeOf21
  v21 := Tryz.zeroValue21
  t37 := Tryz.underlying86
  a37 := Tryz.isAgg86
  z37 := Tryz.sizeOf86
  v37 := Tryz.zeroValue86
  t46 := Tryz.underlying193
  a46 := Tryz.isAgg193
  z46 := Tryz.sizeOf193
  v46 := Tryz.zeroValue193
  t51 := Tryz.underlying220
  a51 := Tryz.isAgg220
  z51 := Tryz.sizeOf220
  v51 := Tryz.zeroValue220
  t53 := Tryz.underlying243
  a53 := Tryz.isAgg243
  z53 := Tryz.sizeOf243
  v53 := Tryz.zeroValue243
  t75 := Tryz.underlying38
  a75 := Tryz.isAgg38
  z75 := Tryz.sizeOf38
  v75 := Tryz.zeroValue38
  t76 := Tryz.underlying140
  a76 := Tryz.isAgg140
  z76 := Tryz.sizeOf140
  v76 := Tryz.zeroValue140
  t85 := Tryz.underlying270
  a85 := Tryz.isAgg270
  z85 := Tryz.sizeOf270
  v85 := Tryz.zeroValue270
  t127 := Tryz.underlying158
  a127 := Tryz.isAgg158
  z127 := Tryz.sizeOf158
  v127 := Tryz.zeroValue158
  t143 := Tryz.underlying316
  a143 := Tryz.isAgg316
  z143 := Tryz.sizeOf316
  v143 := Tryz.zeroValue316
  t145 := Tryz.underlying318
  a145 := Tryz.isAgg318
  z145 := Tryz.sizeOf318
  v145 := Tryz.zeroValue318
  t167 := Tryz.underlying269
  a167 := Tryz.isAgg269
  z167 := Tryz.sizeOf269
  v167 := Tryz.zeroValue269
  t168 := Tryz.underlying272
  a168 := Tryz.isAgg272
  z168 := Tryz.sizeOf272
  v168 := Tryz.zeroValue272
  t171 := Tryz.underlying248
  a171 := Tryz.isAgg248
  z171 := Tryz.sizeOf248
  v171 := Tryz.zeroValue248
  t173 := Tryz.underlying250
  a173 := Tryz.isAgg250
  z173 := Tryz.sizeOf250
  v173 := Tryz.zeroValue250
  t175 := Tryz.underlying302
  a175 := Tryz.isAgg302
  z175 := Tryz.sizeOf302
  v175 := Tryz.zeroValue302
  t210 := Tryz.underlying305
  a210 := Tryz.isAgg305
  z210 := Tryz.sizeOf305
  v210 := Tryz.zeroValue305
  t212 := Tryz.underlying289
  a212 := Tryz.isAgg289
  z212 := Tryz.sizeOf289
  v212 := Tryz.zeroValue289
  t213 := Tryz.underlying290
  a213 := Tryz.isAgg290
  z213 := Tryz.sizeOf290
  t232 := Tryz.underlying322
  a232 := Tryz.isAgg322
  z232 := Tryz.sizeOf322
  v232 := Tryz.zeroValue322
  t233 := Tryz.underlying323
  a233 := Tryz.isAgg323
  z233 := Tryz.sizeOf323
  v233 := Tryz.zeroValue323
  g15 := by kernel_rfl
  g16 := by kernel_rfl
  g17 := by kernel_rfl
  g18 := by kernel_rfl
  g19 := by kernel_rfl
  t80 := Tryz.underlying95
  a80 := Tryz.isAgg95
  z80 := Tryz.sizeOf95
  v80 := Tryz.zeroValue95
  i0 := by kernel_rfl
  i2 := by kernel_rfl
  i3 := by kernel_rfl
  i4 := by kernel_rfl
  i5 := by kernel_rfl
  i9 := by kernel_rfl
  i20 := by kernel_rfl
  i21 := by kernel_rfl
  i37 := by kernel_rfl
  i46 := by kernel_rfl
  i51 := by kernel_rfl
  i53 := by kernel_rfl
  i75 := by kernel_rfl
  i76 := by kernel_rfl
  i80 := by kernel_rfl
  i85 := by kernel_rfl
  i127 := by kernel_rfl
  i143 := by kernel_rfl
  i145 := by kernel_rfl
  i167 := by kernel_rfl
  i168 := by kernel_rfl
  i171 := by kernel_rfl
  i173 := by kernel_rfl
  i175 := by kernel_rfl
  i210 := by kernel_rfl
  i212 := by kernel_rfl
  i232 := by kernel_rfl
  i233 := by kernel_rfl
  m15 := by kernel_rfl
  m16 := by kernel_rfl
  m17 := by kernel_rfl
  m18 := by kernel_rfl
  m19 := by kernel_rfl
  c0 := by kernel_rfl
  c2 := by kernel_rfl
  c3 := by kernel_rfl
  c4 := by kernel_rfl
  c5 := by kernel_rfl
  c9 := by kernel_rfl
  c20 := by kernel_rfl
  c21 := by kernel_rfl
  c37 := by kernel_rfl
  c46 := by kernel_rfl
  c51 := by kernel_rfl
  c53 := by kernel_rfl
  c75 := by kernel_rfl
  c76 := by kernel_rfl
  c80 := by kernel_rfl
  c85 := by kernel_rfl
  c127 := by kernel_rfl
  c143 := by kernel_rfl
  c145 := by kernel_rfl
  c167 := by kernel_rfl
  c168 := by kernel_rfl
  c171 := by kernel_rfl
  c173 := by kernel_rfl
  c175 := by kernel_rfl
  c210 := by kernel_rfl
  c212 := by kernel_rfl
  c213 := by kernel_rfl
  c232 := by kernel_rfl
  c233 := by kernel_rfl }
open Go.RowKit in
theorem Tryz.strconv_Atoi_ok (s : ByteArray) (hmax : s.size ≤ 9223372036854775806) (v : Int) (h : Lib.atoiAll s.data.toList = .ok v) (w : World) :
    Calls Tryz.prog 157 #[.string s] w fun e w' => e = .returned (.tuple #[.int .i64 v, .nilIface]) ∧ (w' = w ∨ ∃ t, w' = Lib.bytesWorld w 5 t) := Any.strconv_Atoi_ok Tryz.laysC172 s hmax v h w
open Go.RowKit in
theorem Tryz.strconv_Atoi_syntax (s : ByteArray) (hlim : s.size ≤ 281474976710656) (h : Lib.atoiAll s.data.toList = .«syntax») (ev : Value) (w : World) (hv : w.cell? ⟨6, 0, none⟩ = some ev) (hev : ev = .nilIface ∨ ∃ te pe, ev = .iface te pe) :
    Calls Tryz.prog 157 #[.string s] w fun e w' => ∃ N, e = .returned (.tuple #[.int .i64 (0), .iface 272 (.pointer (some ⟨N, 0, none⟩))]) ∧ w.heap.size ≤ N ∧ w'.heap[N]? = some (.cells #[.string ⟨#[65, 116, 111, 105]⟩, .string s, ev] 305 (0, 0)) ∧ Below w.heap.size w w' := Any.strconv_Atoi_syntax Tryz.laysC172 s hlim h ev w hv hev
open Go.RowKit in
theorem Tryz.strconv_Atoi_range (s : ByteArray) (hlim : s.size ≤ 281474976710656) (h : Lib.atoiAll s.data.toList = .range) (ev : Value) (w : World) (hv : w.cell? ⟨7, 0, none⟩ = some ev) (hev : ev = .nilIface ∨ ∃ te pe, ev = .iface te pe) :
    Calls Tryz.prog 157 #[.string s] w fun e w' => ∃ N, e = .returned (.tuple #[.int .i64 (Lib.atoiSat s.data.toList), .iface 272 (.pointer (some ⟨N, 0, none⟩))]) ∧ w.heap.size ≤ N ∧ w'.heap[N]? = some (.cells #[.string ⟨#[65, 116, 111, 105]⟩, .string s, ev] 305 (0, 0)) ∧ Below w.heap.size w w' := Any.strconv_Atoi_range Tryz.laysC172 s hlim h ev w hv hev
def Tryz.lays145_ren : Go.Shelf.Ren := ⟨fun | 145 => 172 | 220 => 209 | 219 => 199 | 217 => 156 | 225 => 241 | 224 => 242 | 267 => 243 | 266 => 204 | 314 => 278 | n => n, fun | 9 => 9 | 4 => 4 | 59 => 210 | 3 => 3 | 5 => 5 | 46 => 193 | 146 => 221 | 51 => 220 | n => n, fun | 1 => 0 | n => n⟩
theorem Tryz.lays145 : Go.Proofs.Lays.n145 Tryz.prog Tryz.lays145_ren := {
  mixed := by kernel_rfl
  f145 := Tryz.func172.trans (congrArg some (by kernel_rfl))
  f217 := Tryz.func156.trans (congrArg some (by kernel_rfl))
  f219 := Tryz.func199.trans (congrArg some (by kernel_rfl))
  f220 := Tryz.func209.trans (congrArg some (by kernel_rfl))
  f224 := Tryz.func242.trans (congrArg some (by kernel_rfl))
  f225 := Tryz.func241.trans (congrArg some (by kernel_rfl))
  f266 := Tryz.func204.trans (congrArg some (by kernel_rfl))
  f267 := Tryz.func243.trans (congrArg some (by kernel_rfl))
  f314 := Tryz.func278.trans (congrArg some (by kernel_rfl))
  t3 := Tryz.underlying3
  a3 := Tryz.isAgg3
  z3 := Tryz.sizeOf3
  v3 := Tryz.zeroValue3
  t4 := Tryz.underlying4
  a4 := Tryz.isAgg4
  z4 := Tryz.sizeOf4
  v4 := Tryz.zeroValue4
  t5 := Tryz.underlying5
  a5 := Tryz.isAgg5
  z5 := Tryz.sizeOf5
  v5 := Tryz.zeroValue5
  t9 := Tryz.underlying9
  a9 := Tryz.isAgg9
  z9 := Tryz.sizeOf9
  v9 := Tryz.zeroValue9
  t46 := Tryz.underlying193
  a46 := Tryz.isAgg193
  z46 := Tryz.sizeOf193
  v46 := Tryz.zeroValue193
  t51 := Tryz.underlying220
  a51 := Tryz.isAgg220
  z51 := Tryz.sizeOf220
  v51 := Tryz.zeroValue220
  t59 := Tryz.underlying210
  a59 := Tryz.isAgg210
  z59 := Tryz.sizeOf210
  v59 := Tryz.zeroValue210
  t146 := Tryz.underlying221
  a146 := Tryz.isAgg221
  z146 := Tryz.sizeOf221
  v146 := Tryz.zeroValue221
  g1 := by kernel_rfl }
open Go.RowKit Go.Lib in
theorem Tryz.strings_Cut (s sep : ByteArray) (m : Int) (w : World) (hs : s.size < 4294967281) (hm : w.cell? ⟨0, 0, none⟩ = some (.int .i64 m)) :
    Calls Tryz.prog 172 #[.string s, .string sep] w fun e w' => e = .returned (.tuple #[.string ⟨(Lib.cut s.data.toList sep.data.toList).1.toArray⟩, .string ⟨(Lib.cut s.data.toList sep.data.toList).2.1.toArray⟩, .bool (Lib.cut s.data.toList sep.data.toList).2.2]) ∧ ∃ n, w' = w.drewN n := Any.strings_Cut Tryz.lays145 s sep m w hs hm
end Go.Proofs
namespace Go.Proofs.YtdmplfflmdanlaaGreatDoor
open Go.RowKit Go.Proofs.Aid Go.Proofs.Bx

/-- A number that is read as it was written. -/
def Nice (n : Int) : Prop := 0 ≤ n ∧ (∀ c ∈ Lib.itoa n, 48 ≤ c.toNat ∧ c.toNat ≤ 57) ∧ Lib.atoiAll (Lib.itoa n) = .ok n
def numB (n : Int) : Nm := Lib.itoa n ++ [59]
def textB (t : Nm) : Nm := Lib.itoa (t.length : Int) ++ 58 :: t
def rowB {α : Type} (f : α → Nm) (l : List α) : Nm := numB (l.length : Int) ++ (l.map f).flatten
def letterB (y : Lt) : Nm := numB y.uid ++ (rowB textB y.flags ++ (numB y.day ++ textB y.text))
def boxB (x : Bxd) : Nm := numB x.v ++ (numB x.n ++ rowB letterB x.ls)
def houseB (S : Svd) : Nm := numB S.next ++ (rowB textB S.wants ++ (rowB textB S.names ++ (S.boxes.map boxB).flatten))
/-- Reading, as the program does it. -/
def untilS (c : UInt8) (s : Nm) : Int × Nm :=
  match Lib.atoiAll (Sq.cutAt c s).1 with
  | .ok n => if n < 0 then (0, []) else (n, (Sq.cutAt c s).2.1)
  | _ => (0, [])
def textS (s : Nm) : Nm × Nm := ((untilS 58 s).2.take (untilS 58 s).1.toNat, (untilS 58 s).2.drop (untilS 58 s).1.toNat)
def rowS {α : Type} (one : Nm → α × Nm) : Nat → Nm → List α × Nm
  | 0, s => ([], s)
  | k + 1, s => ((one s).1 :: (rowS one k (one s).2).1, (rowS one k (one s).2).2)
def readRowS {α : Type} (most : Nat) (one : Nm → α × Nm) (s : Nm) : List α × Nm := rowS one (min (untilS 59 s).1.toNat most) (untilS 59 s).2
def letterS (s : Nm) : Lt × Nm :=
  let a := untilS 59 s
  let b := readRowS 12 textS a.2
  let c := untilS 59 b.2
  let d := textS c.2
  (⟨a.1, b.1, c.1, d.1⟩, d.2)
def boxS (s : Nm) : Bxd × Nm :=
  let a := untilS 59 s
  let b := untilS 59 a.2
  let c := readRowS 60 letterS b.2
  (⟨a.1, b.1, c.1⟩, c.2)
def houseS (s : Nm) : Svd × Nm :=
  let a := untilS 59 s
  let b := readRowS 60 textS a.2
  let c := readRowS 30 textS b.2
  let d := rowS boxS c.1.length c.2
  (⟨c.1, d.1, b.1, a.1⟩, d.2)
theorem Nice.no {n : Int} (h : Nice n) {c : UInt8} (hc : c.toNat < 48 ∨ 57 < c.toNat) : c ∉ Lib.itoa n := fun hm => by
  have := h.2.1 c hm
  omega
theorem until_back {n : Int} (h : Nice n) {c : UInt8} (hc : c.toNat < 48 ∨ 57 < c.toNat) (r : Nm) : untilS c (Lib.itoa n ++ c :: r) = (n, r) := by
  unfold untilS
  rw [Hd.cutAt_of r (h.no hc), h.2.2]
  show (if n < 0 then ((0, []) : Int × Nm) else (n, r)) = (n, r)
  rw [if_neg (by have := h.1; omega)]
theorem num_back {n : Int} (h : Nice n) (r : Nm) : untilS 59 (numB n ++ r) = (n, r) := by
  unfold numB
  rw [List.append_assoc]
  exact until_back h (Or.inr (by decide)) r
theorem text_back {t : Nm} (h : Nice (t.length : Int)) (r : Nm) : textS (textB t ++ r) = (t, r) := by
  unfold textS textB
  rw [List.append_assoc, List.cons_append, until_back h (Or.inr (by decide)) (t ++ r)]
  simp
theorem row_back {α : Type} {f : α → Nm} {one : Nm → α × Nm} : ∀ (l : List α), (∀ x ∈ l, ∀ r, one (f x ++ r) = (x, r)) → ∀ r, rowS one l.length ((l.map f).flatten ++ r) = (l, r)
  | [], _, r => by simp [rowS]
  | x :: l, h, r => by
    have h1 := h x List.mem_cons_self ((l.map f).flatten ++ r)
    have h2 := row_back l (fun y hy => h y (List.mem_cons_of_mem _ hy)) r
    simp only [List.length_cons, List.map_cons, List.flatten_cons, List.append_assoc, rowS, h1, h2]
theorem readRow_back {α : Type} {f : α → Nm} {one : Nm → α × Nm} {most : Nat} {l : List α} (hl : l.length ≤ most) (hn : Nice (l.length : Int)) (h : ∀ x ∈ l, ∀ r, one (f x ++ r) = (x, r)) (r : Nm) : readRowS most one (rowB f l ++ r) = (l, r) := by
  unfold readRowS rowB
  rw [List.append_assoc, num_back hn]
  show rowS one (min (l.length : Int).toNat most) _ = _
  rw [Int.toNat_natCast, Nat.min_eq_left hl]
  exact row_back l h r
/-- A letter whose numbers are read as they were written. -/
def NiceL (y : Lt) : Prop := Nice y.uid ∧ y.flags.length ≤ 12 ∧ Nice (y.flags.length : Int) ∧ (∀ f ∈ y.flags, Nice (f.length : Int)) ∧ Nice y.day ∧ Nice (y.text.length : Int)
theorem letter_back {y : Lt} (h : NiceL y) (r : Nm) : letterS (letterB y ++ r) = (y, r) := by
  obtain ⟨h1, h2, h3, h4, h5, h6⟩ := h
  unfold letterS letterB
  simp only [List.append_assoc, num_back h1, readRow_back h2 h3 (fun f hf r => text_back (h4 f hf) r), num_back h5, text_back h6]
def NiceB (x : Bxd) : Prop := Nice x.v ∧ Nice x.n ∧ x.ls.length ≤ 60 ∧ Nice (x.ls.length : Int) ∧ ∀ y ∈ x.ls, NiceL y
theorem box_back {x : Bxd} (h : NiceB x) (r : Nm) : boxS (boxB x ++ r) = (x, r) := by
  obtain ⟨h1, h2, h3, h4, h5⟩ := h
  unfold boxS boxB
  simp only [List.append_assoc, num_back h1, num_back h2, readRow_back h3 h4 (fun y hy r => letter_back (h5 y hy) r)]
structure NiceS (S : Svd) : Prop where
  next : Nice S.next
  wl : S.wants.length ≤ 60
  wn : Nice (S.wants.length : Int)
  w : ∀ t ∈ S.wants, Nice (t.length : Int)
  nl : S.names.length ≤ 30
  nn : Nice (S.names.length : Int)
  n : ∀ t ∈ S.names, Nice (t.length : Int)
  len : S.names.length = S.boxes.length
  b : ∀ x ∈ S.boxes, NiceB x
/-- What is written of a house is read as it was. -/
theorem house_back {S : Svd} (h : NiceS S) (r : Nm) : houseS (houseB S ++ r) = (S, r) := by
  unfold houseS houseB
  simp only [List.append_assoc, num_back h.next, readRow_back h.wl h.wn (fun t ht r => text_back (h.w t ht) r), readRow_back h.nl h.nn (fun t ht r => text_back (h.n t ht) r), h.len, row_back S.boxes (fun x hx r => box_back (h.b x hx) r)]
end Go.Proofs.YtdmplfflmdanlaaGreatDoor
