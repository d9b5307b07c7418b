/-
  What search.fieldHas does, and (message).is of package search at a head's field, a body, a text.
-/
import Derived.Test.YtligkpcoajnjmaaGreatDoorRSearchIs2
import Derived.Test.YtligkpcoajnjmaaGreatDoorRAl27
import Derived.Test.YtligkpcoajnjmaaGreatDoorRAl28
import Derived.Test.YtligkpcoajnjmaaGreatDoorRHeadOnly
namespace Go.Proofs.YtligkpcoajnjmaaGreatDoorR
open Go.RowKit Go.Proofs.Aid Go.Proofs.Sq Go.Proofs.Hd

theorem fhas_in (p : Nat) (s : ByteArray) (q1 q2 : ByteArray) (m : Int) (w : World) (hp : w.cell? ⟨p, 0, none⟩ = some (.string s)) (hq : q2.size ≤ 2000000) (hs : s.size ≤ 2000000) (hm : w.cell? ⟨1, 0, none⟩ = some (.int .i64 m)) :
    Calls Tryz.prog 162 #[.agg #[.string q1, .string q2], .pointer (some ⟨p, 0, none⟩)] w fun e w' => e = .returned (.bool (Sr.hasT q2.data.toList s.data.toList)) ∧ Below w.heap.size w w' := by
  have hb1 : Below w.heap.size w (w.alloc (.cells #[.string q1, .string q2] 216)) := (Below.refl _ _).alloc (Nat.le_refl _) _
  have cH := has_is q2 s m (w.alloc (.cells #[.string q1, .string q2] 216)) hq hs ((hb1.cell (World.block_lt_of_cell? _ _ hm)).trans hm)
  have hp1 := (hb1.cell (World.block_lt_of_cell? _ _ hp)).trans hp
  have n1 : (w.alloc (.cells #[.string q1, .string q2] 216)).cell? ⟨w.heap.size, 1, none⟩ = some (.string q2) := rd_cell (heap_alloc_new w _) rfl
  obtain ⟨A, hA⟩ : ∃ A, Sr.hasT q2.data.toList s.data.toList = A := ⟨_, rfl⟩
  rw [hA] at cH ⊢
  have HB1 : Hid (Below w.heap.size w (w.alloc (.cells #[.string q1, .string q2] 216))) := hb1
  obtain ⟨W1, hW1⟩ : ∃ W, w.alloc (.cells #[.string q1, .string q2] 216) = W := ⟨_, rfl⟩
  rw [hW1] at cH hp1 n1 HB1
  clear hA hb1 hp hm
  go_enter Tryz.func162, Tryz.ntmps162
  go_wp2_with fail
  refine cH.mono ?_
  rintro e w2 ⟨rfl, hb2⟩
  clear cH
  go_wp2_with fail
  go_ret
  exact ⟨rfl, HB1.out.trans (hb2.mono HB1.out.size)⟩
theorem tg_one (w : World) (n : ByteArray) : Tg (w.alloc (.cells #[.string n] 9)) (.slice (some ⟨w.heap.size, 0, none⟩) 1 1) [n] :=
  ⟨_, _, rfl, Or.inr ⟨_, _, rfl, fun j s hj => by
    match j, hj with
    | 0, hj => rw [← Option.some.inj hj]; exact rd_cell (heap_alloc_new w _) rfl
    | j + 1, hj => simp at hj⟩⟩
set_option maxHeartbeats 4000000 in
set_option maxRecDepth 100000 in
theorem fieldHas_is (t n s : ByteArray) (m : Int) (w : World) (ht : t.size ≤ 90000) (hn : n.size ≤ 2000000) (hs : s.size ≤ 2000000) (hm : w.cell? ⟨1, 0, none⟩ = some (.int .i64 m)) :
    Calls Tryz.prog 103 #[.string t, .string n, .string s] w fun e w' => e = .returned (.bool (Sr.fieldT t.data.toList n.data.toList s.data.toList)) ∧ Below w.heap.size w w' := by
  have hmf : ∀ (fn : Fn) (first cap : Array Value) (w : World), (Instr.makeFunc fn first cap).run Tryz.prog w = .ok (.func fn first cap) w := fun _ _ _ _ => rfl
  have eg : ∀ args w, (callFunc 162 args).run Tryz.prog w = .ok (.enter 162 args) w := enters_of Tryz.func162 (by kernel_rfl) rfl
  have K0 : Hid (∀ W, Below w.heap.size w W → W.cell? ⟨1, 0, none⟩ = some (.int .i64 m)) := fun W h => (h.cell (World.block_lt_of_cell? _ _ hm)).trans hm
  have hb1 : Below w.heap.size w (w.alloc (.cells #[.string s] 9)) := (Below.refl _ _).alloc (Nat.le_refl _) _
  have n1 : (w.alloc (.cells #[.string s] 9)).cell? ⟨w.heap.size, 0, none⟩ = some (.string s) := rd_cell (heap_alloc_new w _) rfl
  obtain ⟨W1, hW1⟩ : ∃ W, w.alloc (.cells #[.string s] 9) = W := ⟨_, rfl⟩
  rw [hW1] at hb1 n1
  have hz1 : w.heap.size < W1.heap.size := World.block_lt_of_cell? _ _ n1
  have HP : Hid (∀ W, Below W1.heap.size W1 W → W.cell? ⟨w.heap.size, 0, none⟩ = some (.string s)) := fun W h => (h.cell hz1).trans n1
  have HB1 : Hid (Below w.heap.size w W1) := hb1
  have cF := fields_is t m W1 ht (K0.out W1 hb1)
  obtain ⟨F, hF⟩ : ∃ F, fieldsOf t.data.toList = F := ⟨_, rfl⟩
  have HV : Hid (∀ f ∈ F.2, f.2.length ≤ t.size + 1) := by
    intro f hf
    rw [← hF] at hf
    have := values_short t.data.toList f hf
    rw [list_size] at this
    exact this
  have HG : Hid (∀ L : List Fb, L.map tx = F.2 → Short L ∧ L.length ≤ 40) := fun L hL => by
    rw [← hF] at hL
    exact ⟨short_of (V := t.size + 1) (by omega) fun f hf => by
      rw [hL] at hf
      exact ⟨(fieldsOf_good _).1 f hf, by have := values_short t.data.toList f hf; rw [list_size] at this; exact this⟩, by
      have := congrArg List.length hL
      rw [List.length_map] at this
      rw [this]
      exact (fieldsOf_good _).2⟩
  obtain ⟨A, hA⟩ : ∃ A, Sr.fieldT t.data.toList n.data.toList s.data.toList = A := ⟨_, rfl⟩
  have HA : Hid ((decide (F.1.1 = 0) && (onlyF F.2 [n.data.toList]).any fun f => Sr.hasT f.2 s.data.toList) = A) := by
    show _ = _
    rw [← hA, Sr.fieldT, hF]
  rw [hF] at cF
  rw [hA]
  clear hm hb1 n1 hA hF
  go_enter Tryz.func103, Tryz.ntmps103
  go_wp2_with fail
  refine cF.mono ?_
  clear cF
  rintro e w2 ⟨hb2, ⟨h0, v, L, rfl, hfg, hL⟩ | ⟨h0, p, rfl, _, _⟩⟩
  · have HB2 : Hid (Below W1.heap.size W1 w2) := hb2
    have hb3 : Below w2.heap.size w2 (w2.alloc (.cells #[.string n] 9)) := (Below.refl _ _).alloc (Nat.le_refl _) _
    have hg := HG.out L hL
    have cO := only_is v (.slice (some ⟨w2.heap.size, 0, none⟩) 1 1) L [n] (w2.alloc (.cells #[.string n] 9)) (hfg.below hb3 (Nat.le_refl _)) (tg_one w2 n) (by omega) hg.1 (by simp) (by simpa using hn)
    have HL : Hid (L.map tx = F.2) := hL
    have HB3 : Hid (Below w2.heap.size w2 (w2.alloc (.cells #[.string n] 9))) := hb3
    have H0 : Hid (F.1.1 = 0) := h0
    obtain ⟨W3, hW3⟩ : ∃ W, w2.alloc (.cells #[.string n] 9) = W := ⟨_, rfl⟩
    rw [hW3] at cO HB3
    obtain ⟨va, vc, rfl, _⟩ := hfg
    obtain ⟨LN, hLN⟩ : ∃ x, L.length = x := ⟨_, rfl⟩
    rw [hLN] at cO ⊢
    clear hb2 hb3 hg hL h0 hLN
    go_wp2_with fail
    refine cO.mono ?_
    clear cO
    rintro e w4 ⟨⟨u, O, rfl, hfo, hO⟩, hb4⟩
    have hb14 : Below W1.heap.size W1 w4 := (HB2.out.trans (HB3.out.mono HB2.out.size)).trans (hb4.mono (Nat.le_trans HB2.out.size HB3.out.size))
    have HB4 : Hid (Below W1.heap.size W1 w4) := hb14
    have hO1 : O.map tx = onlyF F.2 [n.data.toList] := by rw [hO, HL.out]; rfl
    have hOm : ∀ f ∈ O, f.2.size ≤ 2000000 ∧ tx f ∈ F.2 := fun f hf => by
      have h1 : tx f ∈ onlyF F.2 [n.data.toList] := by rw [← hO1]; exact List.mem_map_of_mem hf
      have h2 : tx f ∈ F.2 := (List.mem_filter.1 h1).1
      have h3 := HV.out _ h2
      simp only [tx] at h3
      rw [list_size] at h3
      exact ⟨by omega, h2⟩
    have hOl : O.length ≤ 1000 := by
      have h1 := congrArg List.length hO1
      rw [List.length_map] at h1
      have h2 : (onlyF F.2 [n.data.toList]).length ≤ F.2.length := List.length_filter_le _ _
      have h3 := (HG.out L HL.out).2
      have h4 := congrArg List.length HL.out
      rw [List.length_map] at h4
      omega
    have cC := any_fields 162 eg #[.pointer (some ⟨w.heap.size, 0, none⟩)] (fun f => Sr.hasT f.2.data.toList s.data.toList) u O w4 hfo hOl (fun j f W hj hW => by
      have hW1 := hb14.trans (hW.mono hb14.size)
      exact fhas_in w.heap.size s f.1 f.2 m W (HP.out W hW1) (hOm f (List.mem_of_getElem? hj)).1 hs (K0.out W (HB1.out.trans (hW1.mono HB1.out.size))))
    have HE : (O.any fun f => Sr.hasT f.2.data.toList s.data.toList) = A := by
      rw [← HA.out, ← hO1, H0.out, List.any_map]
      rfl
    rw [HE] at cC
    clear hO hO1 hOm hOl hb4 hb14 HE
    go_wp2_with fail
    refine cC.mono ?_
    clear cC
    rintro e w5 ⟨rfl, hb5⟩
    go_wp2_with fail
    go_ret
    exact ⟨rfl, (HB1.out.trans (HB4.out.mono HB1.out.size)).trans (hb5.mono (Nat.le_trans HB1.out.size HB4.out.size))⟩
  · have HB2 : Hid (Below W1.heap.size W1 w2) := hb2
    have hA0 : A = false := by rw [← HA.out, decide_eq_false h0]; rfl
    subst hA0
    clear hb2 h0
    go_wp2_with fail
    go_ret
    exact ⟨rfl, HB1.out.trans (HB2.out.mono HB1.out.size)⟩
set_option maxHeartbeats 2000000 in
set_option maxRecDepth 100000 in
theorem is_3 (m : Sr.Lt) (name text : Sr.Tx) (n : Int) (set : List (Nat × Nat)) (keys : List Sr.Ky) (ys : List Value) (Ok : Nat → Prop) (d : Nat) (tb : ByteArray) (fa : Option Addr) (fn fc : Nat) (mx : Int) (w : World) (hk : Kx w Ok (.mk 3 name text n set keys) ys) (hd : d ≤ 1000) (htb : tb.data.toList = m.text) (ht : tb.size ≤ 90000) (hn : name.length ≤ 2000000) (hx : text.length ≤ 2000000) (hm : w.cell? ⟨1, 0, none⟩ = some (.int .i64 mx)) :
    Calls Tryz.prog 45 #[.agg #[.int .i64 m.uid, .slice fa fn fc, .int .i64 m.day, .string tb, .int .i64 m.which, .int .i64 m.many, .int .i64 m.greatest], .agg ys.toArray, .int .i64 (d : Int)] w fun e w' => e = .returned (.bool (Sr.fieldT m.text name text)) ∧ Below w.heap.size w w' := by
  cases hk with
  | mk code n nb tx set sv ks a c rows hst hkk ha =>
    obtain ⟨sa, sc, rfl, _⟩ := hst
    obtain ⟨SN, hSN⟩ : ∃ n, set.length = n := ⟨_, rfl⟩
    obtain ⟨KN, hKN⟩ : ∃ n, keys.length = n := ⟨_, rfl⟩
    rw [hSN, hKN, show ([.int .i64 3, .string nb, .string tx, .int .i64 n, .slice sa SN sc, .slice a KN c] : List Value).toArray = #[.int .i64 3, .string nb, .string tx, .int .i64 n, .slice sa SN sc, .slice a KN c] from rfl]
    have dd : decide ((65536 : Int) < (d : Int)) = false := decide_eq_false (by omega)
    obtain ⟨W2, hW2, hz2, e1, e2, hb2⟩ := two_boxes w #[.int .i64 m.uid, .slice fa fn fc, .int .i64 m.day, .string tb, .int .i64 m.which, .int .i64 m.many, .int .i64 m.greatest] #[.int .i64 3, .string nb, .string tx, .int .i64 n, .slice sa SN sc, .slice a KN c] 103 33
    have r3 : W2.cell? ⟨w.heap.size, 3, none⟩ = some (.string tb) := rd_cell e1 rfl
    have k0 : W2.cell? ⟨w.heap.size + 1, 0, none⟩ = some (.int .i64 3) := rd_cell e2 rfl
    have k1 : W2.cell? ⟨w.heap.size + 1, 1, none⟩ = some (.string nb) := rd_cell e2 rfl
    have k2 : W2.cell? ⟨w.heap.size + 1, 2, none⟩ = some (.string tx) := rd_cell e2 rfl
    have HB2 : Hid (Below w.heap.size w W2) := hb2
    have HK2 : Hid (∀ W, Below W2.heap.size W2 W → W.cell? ⟨w.heap.size + 1, 2, none⟩ = some (.string tx) ∧ W.cell? ⟨1, 0, none⟩ = some (.int .i64 mx)) := fun W h => ⟨(h.cell (World.block_lt_of_cell? _ _ k2)).trans k2, by
      have hm2 := (hb2.cell (World.block_lt_of_cell? _ _ hm)).trans hm
      exact (h.cell (World.block_lt_of_cell? _ _ hm2)).trans hm2⟩
    rw [list_size] at hn hx
    rw [← htb]
    have cH := fieldHas_is tb nb tx mx W2 ht hn hx (HK2.out W2 (Below.refl _ _)).2
    obtain ⟨A, hA⟩ : ∃ A, Sr.fieldT tb.data.toList nb.data.toList tx.data.toList = A := ⟨_, rfl⟩
    have HA : Hid (Sr.fieldT tb.data.toList nb.data.toList tx.data.toList = A) := hA
    rw [hA] at cH ⊢
    clear e1 e2 hkk ha hb2 hKN hSN htb hm hA
    go_enter Tryz.func45, Tryz.ntmps45
    go_wp2_with fail
    refine cH.mono ?_
    rintro e w3 ⟨rfl, hb3⟩
    clear cH
    go_wp2_with fail
    go_ret
    exact ⟨rfl, HB2.out.trans (hb3.mono HB2.out.size)⟩
set_option maxHeartbeats 2000000 in
set_option maxRecDepth 100000 in
theorem is_5 (m : Sr.Lt) (name text : Sr.Tx) (n : Int) (set : List (Nat × Nat)) (keys : List Sr.Ky) (ys : List Value) (Ok : Nat → Prop) (d : Nat) (tb : ByteArray) (fa : Option Addr) (fn fc : Nat) (mx : Int) (w : World) (hk : Kx w Ok (.mk 5 name text n set keys) ys) (hd : d ≤ 1000) (htb : tb.data.toList = m.text) (ht : tb.size ≤ 90000) (hn : name.length ≤ 2000000) (hx : text.length ≤ 2000000) (hm : w.cell? ⟨1, 0, none⟩ = some (.int .i64 mx)) :
    Calls Tryz.prog 45 #[.agg #[.int .i64 m.uid, .slice fa fn fc, .int .i64 m.day, .string tb, .int .i64 m.which, .int .i64 m.many, .int .i64 m.greatest], .agg ys.toArray, .int .i64 (d : Int)] w fun e w' => e = .returned (.bool (Sr.hasT m.text text)) ∧ Below w.heap.size w w' := by
  cases hk with
  | mk code n nb tx set sv ks a c rows hst hkk ha =>
    obtain ⟨sa, sc, rfl, _⟩ := hst
    obtain ⟨SN, hSN⟩ : ∃ n, set.length = n := ⟨_, rfl⟩
    obtain ⟨KN, hKN⟩ : ∃ n, keys.length = n := ⟨_, rfl⟩
    rw [hSN, hKN, show ([.int .i64 5, .string nb, .string tx, .int .i64 n, .slice sa SN sc, .slice a KN c] : List Value).toArray = #[.int .i64 5, .string nb, .string tx, .int .i64 n, .slice sa SN sc, .slice a KN c] from rfl]
    have dd : decide ((65536 : Int) < (d : Int)) = false := decide_eq_false (by omega)
    obtain ⟨W2, hW2, hz2, e1, e2, hb2⟩ := two_boxes w #[.int .i64 m.uid, .slice fa fn fc, .int .i64 m.day, .string tb, .int .i64 m.which, .int .i64 m.many, .int .i64 m.greatest] #[.int .i64 5, .string nb, .string tx, .int .i64 n, .slice sa SN sc, .slice a KN c] 103 33
    have r3 : W2.cell? ⟨w.heap.size, 3, none⟩ = some (.string tb) := rd_cell e1 rfl
    have k0 : W2.cell? ⟨w.heap.size + 1, 0, none⟩ = some (.int .i64 5) := rd_cell e2 rfl
    have k1 : W2.cell? ⟨w.heap.size + 1, 1, none⟩ = some (.string nb) := rd_cell e2 rfl
    have k2 : W2.cell? ⟨w.heap.size + 1, 2, none⟩ = some (.string tx) := rd_cell e2 rfl
    have HB2 : Hid (Below w.heap.size w W2) := hb2
    have HK2 : Hid (∀ W, Below W2.heap.size W2 W → W.cell? ⟨w.heap.size + 1, 2, none⟩ = some (.string tx) ∧ W.cell? ⟨1, 0, none⟩ = some (.int .i64 mx)) := fun W h => ⟨(h.cell (World.block_lt_of_cell? _ _ k2)).trans k2, by
      have hm2 := (hb2.cell (World.block_lt_of_cell? _ _ hm)).trans hm
      exact (h.cell (World.block_lt_of_cell? _ _ hm2)).trans hm2⟩
    rw [list_size] at hn hx
    rw [← htb]
    have cH := has_is tb tx mx W2 (by omega) hx (HK2.out W2 (Below.refl _ _)).2
    obtain ⟨A, hA⟩ : ∃ A, Sr.hasT tb.data.toList tx.data.toList = A := ⟨_, rfl⟩
    have HA : Hid (Sr.hasT tb.data.toList tx.data.toList = A) := hA
    rw [hA] at cH ⊢
    clear e1 e2 hkk ha hb2 hKN hSN htb hm hA
    go_enter Tryz.func45, Tryz.ntmps45
    go_wp2_with fail
    refine cH.mono ?_
    rintro e w3 ⟨rfl, hb3⟩
    clear cH
    go_wp2_with fail
    go_ret
    exact ⟨rfl, HB2.out.trans (hb3.mono HB2.out.size)⟩
set_option maxHeartbeats 2000000 in
set_option maxRecDepth 100000 in
theorem is_4 (m : Sr.Lt) (name text : Sr.Tx) (n : Int) (set : List (Nat × Nat)) (keys : List Sr.Ky) (ys : List Value) (Ok : Nat → Prop) (d : Nat) (tb : ByteArray) (fa : Option Addr) (fn fc : Nat) (mx : Int) (w : World) (hk : Kx w Ok (.mk 4 name text n set keys) ys) (hd : d ≤ 1000) (htb : tb.data.toList = m.text) (ht : tb.size ≤ 90000) (hn : name.length ≤ 2000000) (hx : text.length ≤ 2000000) (hm : w.cell? ⟨1, 0, none⟩ = some (.int .i64 mx)) :
    Calls Tryz.prog 45 #[.agg #[.int .i64 m.uid, .slice fa fn fc, .int .i64 m.day, .string tb, .int .i64 m.which, .int .i64 m.many, .int .i64 m.greatest], .agg ys.toArray, .int .i64 (d : Int)] w fun e w' => e = .returned (.bool (Sr.hasT (Hd.bodyOf m.text) text)) ∧ Below w.heap.size w w' := by
  cases hk with
  | mk code n nb tx set sv ks a c rows hst hkk ha =>
    obtain ⟨sa, sc, rfl, _⟩ := hst
    obtain ⟨SN, hSN⟩ : ∃ n, set.length = n := ⟨_, rfl⟩
    obtain ⟨KN, hKN⟩ : ∃ n, keys.length = n := ⟨_, rfl⟩
    rw [hSN, hKN, show ([.int .i64 4, .string nb, .string tx, .int .i64 n, .slice sa SN sc, .slice a KN c] : List Value).toArray = #[.int .i64 4, .string nb, .string tx, .int .i64 n, .slice sa SN sc, .slice a KN c] from rfl]
    have dd : decide ((65536 : Int) < (d : Int)) = false := decide_eq_false (by omega)
    obtain ⟨W2, hW2, hz2, e1, e2, hb2⟩ := two_boxes w #[.int .i64 m.uid, .slice fa fn fc, .int .i64 m.day, .string tb, .int .i64 m.which, .int .i64 m.many, .int .i64 m.greatest] #[.int .i64 4, .string nb, .string tx, .int .i64 n, .slice sa SN sc, .slice a KN c] 103 33
    have r3 : W2.cell? ⟨w.heap.size, 3, none⟩ = some (.string tb) := rd_cell e1 rfl
    have k0 : W2.cell? ⟨w.heap.size + 1, 0, none⟩ = some (.int .i64 4) := rd_cell e2 rfl
    have k1 : W2.cell? ⟨w.heap.size + 1, 1, none⟩ = some (.string nb) := rd_cell e2 rfl
    have k2 : W2.cell? ⟨w.heap.size + 1, 2, none⟩ = some (.string tx) := rd_cell e2 rfl
    have HB2 : Hid (Below w.heap.size w W2) := hb2
    have HK2 : Hid (∀ W, Below W2.heap.size W2 W → W.cell? ⟨w.heap.size + 1, 2, none⟩ = some (.string tx) ∧ W.cell? ⟨1, 0, none⟩ = some (.int .i64 mx)) := fun W h => ⟨(h.cell (World.block_lt_of_cell? _ _ k2)).trans k2, by
      have hm2 := (hb2.cell (World.block_lt_of_cell? _ _ hm)).trans hm
      exact (h.cell (World.block_lt_of_cell? _ _ hm2)).trans hm2⟩
    rw [list_size] at hn hx
    rw [← htb]
    have cS := split_is tb mx W2 (by omega) (HK2.out W2 (Below.refl _ _)).2
    obtain ⟨b1, hb1⟩ : ∃ b : ByteArray, ⟨(headOf tb.data.toList).toArray⟩ = b := ⟨_, rfl⟩
    obtain ⟨b2, hbb⟩ : ∃ b : ByteArray, ⟨(bodyOf tb.data.toList).toArray⟩ = b := ⟨_, rfl⟩
    rw [hb1, hbb] at cS
    have HBB : Hid (b2.data.toList = bodyOf tb.data.toList) := by show _ = _; rw [← hbb]
    have hbz : b2.size ≤ 2000000 := by
      rw [← list_size, HBB.out]
      have : (bodyOf tb.data.toList).length ≤ tb.data.toList.length := by unfold bodyOf; simp
      rw [list_size] at this
      omega
    clear hb1 hbb
    obtain ⟨A, hA⟩ : ∃ A, Sr.hasT (Hd.bodyOf tb.data.toList) tx.data.toList = A := ⟨_, rfl⟩
    have HA : Hid (Sr.hasT (Hd.bodyOf tb.data.toList) tx.data.toList = A) := hA
    rw [hA]
    clear e1 e2 hkk ha hb2 hKN hSN htb hm hA
    go_enter Tryz.func45, Tryz.ntmps45
    go_wp2_with fail
    refine cS.mono ?_
    rintro e w3 ⟨rfl, hb3⟩
    clear cS
    have c2 := (HK2.out w3 hb3).1
    have cH := has_is b2 tx mx w3 hbz hx (HK2.out w3 hb3).2
    rw [HBB.out, HA.out] at cH
    go_wp2_with fail
    refine cH.mono ?_
    rintro e w4 ⟨rfl, hb4⟩
    clear cH
    go_wp2_with fail
    go_ret
    exact ⟨rfl, (HB2.out.trans (hb3.mono HB2.out.size)).trans (hb4.mono (Nat.le_trans HB2.out.size hb3.size))⟩
/-- All leaves, of texts that are no longer than so much. -/
def AllL (code : Int) (name text : Sr.Tx) : Prop := ((code = 3 ∨ code = 4 ∨ code = 5) ∧ name.length ≤ 2000000 ∧ text.length ≤ 2000000) ∨ FlagL code name text
theorem all_leafs (m : Sr.Lt) (Ok : Nat → Prop) (tb : ByteArray) (fa : Option Addr) (fn fc : Nat) (w0 : World) (htb : tb.data.toList = m.text) (ht : tb.size ≤ 90000) (hF : Trow w0 fa fn m.flags) (hFl : m.flags.length ≤ 1000) (hm : ∀ W, Below w0.heap.size w0 W → ∃ mx, W.cell? ⟨1, 0, none⟩ = some (.int .i64 mx)) : Leafs m [.int .i64 m.uid, .slice fa fn fc, .int .i64 m.day, .string tb, .int .i64 m.which, .int .i64 m.many, .int .i64 m.greatest] AllL Ok w0 := by
  intro code name text n set keys ys d W hc h0 hk hd hs
  obtain ⟨mx, hmx⟩ := hm W h0
  rcases hc with ⟨rfl | rfl | rfl, h1, h2⟩ | hc
  · rw [show Sr.holdsK m (.mk 3 name text n set keys) = Sr.fieldT m.text name text by rw [Sr.holdsK]; simp]
    exact is_3 m name text n set keys ys Ok d tb fa fn fc mx W hk hd htb ht h1 h2 hmx
  · rw [show Sr.holdsK m (.mk 4 name text n set keys) = Sr.hasT (Hd.bodyOf m.text) text by rw [Sr.holdsK]; simp]
    exact is_4 m name text n set keys ys Ok d tb fa fn fc mx W hk hd htb ht h1 h2 hmx
  · rw [show Sr.holdsK m (.mk 5 name text n set keys) = Sr.hasT m.text text by rw [Sr.holdsK]; simp]
    exact is_5 m name text n set keys ys Ok d tb fa fn fc mx W hk hd htb ht h1 h2 hmx
  · exact flag_leafs m Ok tb fa fn fc w0 htb hF hFl code name text n set keys ys d W hc h0 hk hd hs
end Go.Proofs.YtligkpcoajnjmaaGreatDoorR
