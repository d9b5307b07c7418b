/-
  A row of texts alone, with room behind them: the names that are wanted. One put in, one taken away.
-/
import Derived.Test.YtdmplfflmdanlaaGreatDoorBpBoxInv
namespace Go.Proofs.YtdmplfflmdanlaaGreatDoor
open Go.RowKit Go.Proofs.Aid Go.Proofs.Bx

/-- A block of texts alone. -/
def TBlk (w : World) (g cap : Nat) : Prop := ∃ cur : Array Value, w.heap[g]? = some (.cells cur 9 (0, 0)) ∧ cur.size = cap ∧ ∀ (j : Nat) u, cur[j]? = some u → ∃ s : ByteArray, u = .string s
theorem TBlk.one {w : World} {g cap j : Nat} {u : Value} (h : TBlk w g cap) (hc : w.cell? ⟨g, j, none⟩ = some u) : ∃ s : ByteArray, u = .string s := by
  obtain ⟨cur, h1, _, h3⟩ := h
  have hj : cur[j]? = some u := by simpa [World.cell?, h1] using hc
  exact h3 j u hj
theorem TBlk.some {w : World} {g cap j : Nat} (h : TBlk w g cap) (hj : j < cap) : (w.cell? ⟨g, j, none⟩).isSome = true := by
  obtain ⟨cur, h1, h2, _⟩ := h
  rw [rd_cell h1 (Array.getElem?_eq_getElem (by omega))]
  rfl
theorem TBlk.free {w : World} {g cap : Nat} (h : TBlk w g cap) (j : Nat) : w.frozen? ⟨g, j, none⟩ = false := by
  obtain ⟨cur, h1, _⟩ := h
  exact rd_free h1 j
theorem TBlk.lt {w : World} {g cap : Nat} (h : TBlk w g cap) : g < w.heap.size := by
  obtain ⟨cur, h1, _⟩ := h
  exact (Array.getElem?_eq_some_iff.1 h1).1
theorem TBlk.shape {w : World} {g cap : Nat} (h : TBlk w g cap) : w.shape? g = Option.some (9, cap) := by
  obtain ⟨cur, h1, h2, _⟩ := h
  simp [World.shape?, h1, h2]
theorem TBlk.same {w w' : World} {g cap : Nat} (h : TBlk w g cap) (e : w'.heap[g]? = w.heap[g]?) : TBlk w' g cap := by
  obtain ⟨cur, h1, r⟩ := h
  exact ⟨cur, e.trans h1, r⟩
theorem TBlk.set1 {w : World} {g cap : Nat} (h : TBlk w g cap) (o : Nat) (s : ByteArray) : TBlk (w.setCell ⟨g, o, none⟩ (.string s)) g cap := by
  obtain ⟨cur, h1, h2, h3⟩ := h
  refine ⟨_, rd_set (i := o) (.string s) h1, by simpa using h2, fun j u hj => ?_⟩
  rw [Array.getElem?_setIfInBounds] at hj
  split at hj
  · split at hj
    · exact ⟨s, (Option.some.inj hj).symm⟩
    · cases hj
  · exact h3 j u hj
theorem TBlk.set {g cap : Nat} : ∀ (vs : List Value) (o : Nat) (w : World), TBlk w g cap → (∀ v ∈ vs, ∃ s : ByteArray, v = .string s) → TBlk (w.setCells g o vs) g cap
  | [], _, _, h, _ => h
  | v :: vs, o, w, h, hv => by
    obtain ⟨s, rfl⟩ := hv v List.mem_cons_self
    exact TBlk.set vs (o + 1) _ (h.set1 o s) fun u hu => hv u (List.mem_cons_of_mem _ hu)
/-- Texts in a block of texts alone. -/
def WRow (w : World) (v : Value) (W : List Nm) : Prop := (v = .slice none 0 0 ∧ W = []) ∨ ∃ g cap, v = .slice (Option.some ⟨g, 0, none⟩) W.length cap ∧ TBlk w g cap ∧ (∀ (j : Nat) x, W[j]? = Option.some x → w.cell? ⟨g, j, none⟩ = Option.some (encStr x)) ∧ W.length ≤ cap ∧ cap ≤ maxLen
theorem WRow.sl {w : World} {v : Value} {W : List Nm} (h : WRow w v W) : Sl w v W := by
  rcases h with ⟨rfl, rfl⟩ | ⟨g, cap, rfl, h1, h2, h3, h4⟩
  · exact ⟨none, 0, rfl, ⟨fun _ => rfl, Nat.le_refl _⟩, Or.inl rfl⟩
  · refine ⟨_, cap, rfl, ⟨fun e => (by cases e), h3⟩, Or.inr ⟨g, 0, rfl, fun j t hj => ?_⟩⟩
    rw [Nat.zero_add]
    exact h2 j t hj
theorem WRow.same {w w' : World} {v : Value} {W : List Nm} (h : WRow w v W) (hk : ∀ g, v.ownBlock = Option.some g → w'.heap[g]? = w.heap[g]?) : WRow w' v W := by
  rcases h with ⟨rfl, rfl⟩ | ⟨g, cap, rfl, h1, h2, h3⟩
  · exact Or.inl ⟨rfl, rfl⟩
  · have e := hk g rfl
    exact Or.inr ⟨g, cap, rfl, h1.same e, fun j x hj => (World.cell?_of_block (a := ⟨g, j, none⟩) e).trans (h2 j x hj), h3⟩
theorem WRow.tblk {w : World} {v : Value} {W : List Nm} (h : WRow w v W) {g : Nat} (hg : v.ownBlock = Option.some g) : ∃ cap, TBlk w g cap := by
  rcases h with ⟨rfl, rfl⟩ | ⟨g', cap, rfl, h1, _⟩
  · cases hg
  · obtain rfl : g' = g := by simpa [Value.ownBlock] using hg
    exact ⟨cap, h1⟩
theorem WRow.below {w w' : World} {v : Value} {W : List Nm} (h : WRow w v W) (hb : Below w.heap.size w w') : WRow w' v W := h.same fun g hg => by
  obtain ⟨cap, ht⟩ := h.tblk hg
  exact hb.block g ht.lt
theorem enc_inv (x : Nm) : ∃ s : ByteArray, encStr x = .string s := ⟨_, rfl⟩
theorem encs_txt {l : List Nm} : ∀ v ∈ l.map encStr, ∃ s : ByteArray, v = .string s := fun v hv => by
  obtain ⟨x, _, rfl⟩ := List.mem_map.1 hv
  exact enc_inv x
theorem encs_one {l : List Nm} : ∀ v ∈ l.map encStr, v.oneCell' = true := fun v hv => by
  obtain ⟨s, rfl⟩ := encs_txt v hv
  rfl
/-- Nothing but one block (and what is laid anew) is changed. -/
structure Only (g : Option Nat) (w w' : World) : Prop where
  os : w'.os = w.os
  tape : w'.tape = w.tape
  output : w'.output = w.output
  size : w.heap.size ≤ w'.heap.size
  block : ∀ k, k < w.heap.size → g ≠ Option.some k → w'.heap[k]? = w.heap[k]?
theorem Only.of {g : Option Nat} {w w' : World} (h : Below w.heap.size w w') : Only g w w' := ⟨h.os, h.tape, h.output, h.size, fun k hk _ => h.block k hk⟩
theorem Only.trans {g : Option Nat} {a b c : World} (h : Only g a b) (k : Only g b c) : Only g a c := ⟨k.os.trans h.os, k.tape.trans h.tape, k.output.trans h.output, Nat.le_trans h.size k.size, fun j hj hn => (k.block j (Nat.lt_of_lt_of_le hj h.size) hn).trans (h.block j hj hn)⟩
theorem only_set (g : Nat) : ∀ (vs : List Value) (o : Nat) (w : World), Only (Option.some g) w (w.setCells g o vs)
  | [], _, _ => ⟨rfl, rfl, rfl, Nat.le_refl _, fun _ _ _ => rfl⟩
  | v :: vs, o, w => by
    have h1 : Only (Option.some g) w (w.setCell ⟨g, o, none⟩ v) := ⟨rfl, rfl, rfl, by simp, fun k _ hn => Below.heap_setCell _ _ _ _ fun e => hn (by rw [show k = g from e])⟩
    exact h1.trans (only_set g vs (o + 1) _)
theorem bset {B : Nat} {a : World} (b : Nat) (hb : B ≤ b) : ∀ (vs : List Value) (o : Nat) {w : World}, Below B a w → Below B a (w.setCells b o vs)
  | [], _, _, h => h
  | v :: r, o, _, h => bset b hb r (o + 1) (h.setCell (p := ⟨b, o, none⟩) hb v)
theorem own_txt {w : World} {g : Nat} {W : List Nm} (h : ∀ (j : Nat) x, W[j]? = Option.some x → w.cell? ⟨g, j, none⟩ = Option.some (encStr x)) : ∀ j v, (W.map encStr)[j]? = Option.some v → w.cell? ⟨g, 0 + j, none⟩ = Option.some v := fun j v hj => by
  rw [List.getElem?_map] at hj
  obtain ⟨x, hx, rfl⟩ := Option.map_eq_some_iff.1 hj
  rw [Nat.zero_add]
  exact h j x hx
theorem in_txt {w : World} {g cap o : Nat} (ht : TBlk w g cap) (W : List Nm) (hW : o + W.length ≤ cap) {j : Nat} {x : Nm} (hj : W[j]? = Option.some x) : (w.setCells g o (W.map encStr)).cell? ⟨g, o + j, none⟩ = Option.some (encStr x) := by
  have hlt := (List.getElem?_eq_some_iff.1 hj).1
  rw [World.cell?_setCells_in g (W.map encStr) o w (fun i hi => ht.some (by rw [List.length_map] at hi; omega)) j (by rw [List.length_map]; exact hlt)]
  rw [List.getElem_map, (List.getElem?_eq_some_iff.1 hj).2]
theorem out_txt {w : World} {g o j : Nat} (vs : List Value) (hj : j < o ∨ o + vs.length ≤ j) : (w.setCells g o vs).cell? ⟨g, j, none⟩ = w.cell? ⟨g, j, none⟩ := World.cell?_setCells_out g vs o w ⟨g, j, none⟩ fun _ _ => hj
/-- What lies in a row, one put in at k. -/
theorem put_get {W : List Nm} {x y : Nm} {k j : Nat} (hk : k ≤ W.length) (hj : (W.take k ++ x :: W.drop k)[j]? = Option.some y) : (j < k ∧ W[j]? = Option.some y) ∨ (j = k ∧ y = x) ∨ (k < j ∧ W[j - 1]? = Option.some y) := by
  rcases Nat.lt_trichotomy j k with h | h | h
  · rw [List.getElem?_append_left (by rw [List.length_take]; omega), List.getElem?_take, if_pos h] at hj
    exact Or.inl ⟨h, hj⟩
  · subst h
    rw [List.getElem?_append_right (by rw [List.length_take]; omega), List.length_take, Nat.min_eq_left hk, Nat.sub_self] at hj
    exact Or.inr (Or.inl ⟨rfl, by simpa using hj.symm⟩)
  · rw [List.getElem?_append_right (by rw [List.length_take]; omega), List.length_take, Nat.min_eq_left hk] at hj
    obtain ⟨i, hi⟩ : ∃ i, j = k + (i + 1) := ⟨j - k - 1, by omega⟩
    rw [hi, Nat.add_sub_cancel_left, List.getElem?_cons_succ, List.getElem?_drop] at hj
    refine Or.inr (Or.inr ⟨h, ?_⟩)
    rw [← hj]
    congr 1
    omega
theorem put_len {W : List Nm} {x : Nm} {k : Nat} (hk : k ≤ W.length) : (W.take k ++ x :: W.drop k).length = W.length + 1 := by
  rw [List.length_append, List.length_take, List.length_cons, List.length_drop]
  omega
theorem zeros_txt (n : Nat) : Builtin.zeroCells (Value.string ⟨#[]⟩).cells n = Array.replicate n (Value.string ⟨#[]⟩) := by
  apply Array.ext_getElem?
  intro i
  have h1 : (Value.string ⟨#[]⟩).cells = #[Value.string ⟨#[]⟩] := rfl
  unfold Builtin.zeroCells
  rw [h1, Array.getElem?_map, Array.getElem?_range, Array.getElem?_replicate]
  have h2 : (#[Value.string ⟨#[]⟩] : Array Value).size = 1 := rfl
  rw [h2, Nat.mul_one]
  by_cases h : i < n
  · rw [if_pos h, if_pos h, Option.map_some]
    simp only [Nat.mod_one]
    rfl
  · rw [if_neg h, if_neg h]
    rfl
set_option maxRecDepth 100000 in
set_option maxHeartbeats 2000000 in
theorem ins_is (v : Value) (W : List Nm) (x : ByteArray) (nb k : Nat) (w : World) (h : WRow w v W) (hk : k ≤ W.length) (hl : W.length ≤ 1000) (hx : w.heap[nb]? = Option.some (.cells #[.string x] 9 (0, 0))) (hne : v.ownBlock ≠ Option.some nb) :
    Calls Tryz.prog 132 #[v, .int .i64 (k : Int), .slice (Option.some ⟨nb, 0, none⟩) 1 1] w fun e w' => (∃ v', e = .returned v' ∧ WRow w' v' (W.take k ++ x.data.toList :: W.drop k) ∧ ∀ q, v'.ownBlock = Option.some q → v.ownBlock = Option.some q ∨ w.heap.size ≤ q) ∧ Only v.ownBlock w w' := by
  have hlen := put_len (x := x.data.toList) hk
  have hxs : ∀ (j : Nat) u, ([Value.string x] : List Value)[j]? = Option.some u → w.cell? ⟨nb, 0 + j, none⟩ = Option.some u := fun j u hj => by
    cases j with
    | zero => obtain rfl : Value.string x = u := by simpa using hj
              exact rd_cell hx rfl
    | succ j => simp at hj
  have hx1 : ∀ u ∈ ([Value.string x] : List Value), u.oneCell' = true := fun u hu => by rw [List.mem_singleton.1 hu]; rfl
  have hxe : [Value.string x] = [x.data.toList].map encStr := by rw [List.map_cons, enc_ba]; rfl
  -- a row laid anew
  have hnew : ∀ (base : Option Addr) (n c : Nat), W.length = n → v = .slice base n c → n ≤ c → c < n + 1 → (base = none → n = 0) → (∀ a, base = Option.some a → ∀ j u, (W.map encStr)[j]? = Option.some u → w.cell? (a.add j) = Option.some u) → k = n →
      Calls Tryz.prog 132 #[v, .int .i64 (k : Int), .slice (Option.some ⟨nb, 0, none⟩) 1 1] w fun e w' => (∃ v', e = .returned v' ∧ WRow w' v' (W.take k ++ x.data.toList :: W.drop k) ∧ ∀ q, v'.ownBlock = Option.some q → v.ownBlock = Option.some q ∨ w.heap.size ≤ q) ∧ Only v.ownBlock w w' := by
    rintro base n c hn rfl hnc hroom hnil hcs rfl
    refine (Any2.slices_Insert_string_end_grow Tryz.laysIns base k c nb 0 1 1 (W.map encStr) [Value.string x] w (by omega) hnc (by omega) (by omega) (by rw [List.length_map]; exact hn) rfl hnil hcs hxs hx1).mono ?_
    rintro e w' ⟨rfl, rfl⟩
    have hcg := grownCap_ge w (k + 1) c (Tryz.laysIns_ren.t 9)
    have hcm := grownCap_le_maxLen w (k + 1) c (Tryz.laysIns_ren.t 9) (by unfold maxLen; omega)
    obtain ⟨G, hG⟩ : ∃ G, grownCap w (k + 1) c (Tryz.laysIns_ren.t 9) = G := ⟨_, rfl⟩
    rw [hG] at hcg hcm ⊢
    have e1 : (w.drew.alloc (.cells ((W.map encStr ++ [Value.string x]).toArray ++ Builtin.zeroCells (Value.string ⟨#[]⟩).cells (G - (k + 1))) 9)).heap[w.heap.size]? = _ := heap_alloc_new w.drew _
    have hz : Builtin.zeroCells (Value.string ⟨#[]⟩).cells (G - (k + 1)) = Array.replicate (G - (k + 1)) (Value.string ⟨#[]⟩) := zeros_txt _
    rw [hz] at e1 ⊢
    have hW : W.take k ++ x.data.toList :: W.drop k = W ++ [x.data.toList] := by rw [List.take_of_length_le (by omega), List.drop_of_length_le (by omega)]
    refine ⟨⟨_, rfl, Or.inr ⟨w.heap.size, G, by rw [hlen, hn], ⟨_, e1, ?_, fun j u hj => ?_⟩, fun j y hj => ?_, by rw [hlen]; omega, hcm⟩, fun q hq => Or.inr (by simp [Value.ownBlock] at hq; omega)⟩, Only.of ((Below.refl _ _).drew.alloc (Nat.le_refl _) _)⟩
    · simp
      omega
    · rw [Array.getElem?_append] at hj
      split at hj
      · have hj : (W.map encStr ++ [Value.string x])[j]? = Option.some u := by simpa using hj
        rw [hxe, ← List.map_append] at hj
        exact encs_txt u (List.mem_of_getElem? hj)
      · rw [Array.getElem?_replicate] at hj
        split at hj
        · exact ⟨_, (Option.some.inj hj).symm⟩
        · cases hj
    · rw [hW] at hj
      have hjl := (List.getElem?_eq_some_iff.1 hj).1
      refine rd_cell e1 ?_
      rw [Array.getElem?_append_left (by simpa using hjl)]
      have : (W.map encStr ++ [Value.string x])[j]? = Option.some (encStr y) := by
        rw [hxe, ← List.map_append, List.getElem?_map, hj]
        rfl
      simpa using this
  rcases h with ⟨rfl, rfl⟩ | ⟨g, cap, rfl, ht, hc, hle, hmax⟩
  · exact hnew none 0 0 rfl rfl (Nat.le_refl _) (by omega) (fun _ => rfl) (fun a e => by cases e) (by simpa using hk)
  obtain ⟨n, hn⟩ : ∃ n, W.length = n := ⟨_, rfl⟩
  have hm63 : cap ≤ 9223372036854775807 := by unfold maxLen at hmax; omega
  have hgn : g ≠ nb := fun e => hne (by rw [e]; rfl)
  rw [hn] at hle hk ⊢
  have hcs := own_txt hc
  by_cases hroom : n + 1 ≤ cap
  · by_cases hi : k < n
    · refine (Any2.slices_Insert_string_shift Tryz.laysIns g 0 n cap k nb 0 1 1 (W.map encStr) [Value.string x] w hi (by omega) hroom hm63 (fun e => hgn e.symm) (by rw [List.length_map]; exact hn) rfl hcs (fun j hj => ht.some (by omega)) (fun j _ => ht.free _) hxs encs_one hx1 9 9 1 cap (by simp [World.shape?, hx]) ht.shape (by omega) (rd_free hx _) (rd_free hx _)).mono ?_
      rintro e w' ⟨rfl, rfl⟩
      have ht1 : TBlk w.drew g cap := ht.same rfl
      rw [← List.map_drop, hxe, Nat.zero_add, Nat.zero_add]
      have ht2 := TBlk.set ((W.drop k).map encStr) (k + 1) _ ht1 encs_txt
      have ht3 := TBlk.set ([x.data.toList].map encStr) k _ ht2 encs_txt
      have ho : Only (Option.some g) w ((w.drew.setCells g (k + 1) ((W.drop k).map encStr)).setCells g k ([x.data.toList].map encStr)) := (Only.of (Below.refl _ _).drew).trans ((only_set g _ _ _).trans (only_set g _ _ _))
      refine ⟨⟨_, rfl, Or.inr ⟨g, cap, by rw [hlen, hn], ht3, fun j y hj => ?_, by rw [hlen]; omega, hmax⟩, fun q hq => Or.inl hq⟩, ho⟩
      rcases put_get (by omega) hj with ⟨h1, h2⟩ | ⟨h1, h2⟩ | ⟨h1, h2⟩
      · rw [out_txt _ (Or.inl h1), out_txt _ (Or.inl (by omega))]
        exact hc j y h2
      · subst h1 h2
        have := in_txt ht2 [x.data.toList] (o := j) (by simp; omega) (j := 0) (x := x.data.toList) rfl
        rw [Nat.add_zero] at this
        exact this
      · rw [out_txt _ (Or.inr (by simp; omega))]
        obtain ⟨i, hi2⟩ : ∃ i, j = k + 1 + i := ⟨j - k - 1, by omega⟩
        subst hi2
        exact in_txt ht1 (W.drop k) (o := k + 1) (by rw [List.length_drop]; omega) (j := i) (by rw [List.getElem?_drop, ← h2]; congr 1; omega)
    · obtain rfl : k = n := by omega
      refine (Any2.slices_Insert_string_end_room Tryz.laysIns g 0 k cap nb 0 1 1 [Value.string x] w (by omega) hroom hm63 rfl (fun j hj => ht.some (by omega)) (fun j _ => ht.free _) hxs hx1).mono ?_
      rintro e w' ⟨rfl, rfl⟩
      rw [hxe, Nat.zero_add]
      refine ⟨⟨_, rfl, Or.inr ⟨g, cap, by rw [hlen, hn], TBlk.set _ _ _ ht encs_txt, fun j y hj => ?_, by rw [hlen]; omega, hmax⟩, fun q hq => Or.inl hq⟩, only_set g _ _ _⟩
      rcases put_get (by omega) hj with ⟨h1, h2⟩ | ⟨h1, h2⟩ | ⟨h1, h2⟩
      · rw [out_txt _ (Or.inl h1)]
        exact hc j y h2
      · subst h1 h2
        have := in_txt ht [x.data.toList] (o := j) (by simp; omega) (j := 0) (x := x.data.toList) rfl
        rw [Nat.add_zero] at this
        exact this
      · have := (List.getElem?_eq_some_iff.1 h2).1
        omega
  · by_cases hi : k < n
    · refine (Any2.slices_Insert_string_grow Tryz.laysIns g 0 n cap k nb 0 1 1 (W.map encStr) [Value.string x] w hi (by omega) hle (by omega) (by omega) (by rw [List.length_map]; exact hn) rfl hcs hxs encs_one hx1).mono ?_
      rintro e w' ⟨rfl, rfl⟩
      have hcg := grownCap_ge w (n + 1) cap (Tryz.laysIns_ren.t 9)
      have hcm := grownCap_le_maxLen w (n + 1) cap (Tryz.laysIns_ren.t 9) (by unfold maxLen; omega)
      obtain ⟨G, hG⟩ : ∃ G, grownCap w (n + 1) cap (Tryz.laysIns_ren.t 9) = G := ⟨_, rfl⟩
      rw [hG] at hcg hcm ⊢
      rw [← List.map_drop, ← List.map_take, hxe]
      have hz : ∀ m, Builtin.zeroCells (Value.string ⟨#[]⟩).cells m = Array.replicate m (Value.string ⟨#[]⟩) := zeros_txt
      rw [hz, hz]
      have e1 : (w.alloc (.cells (((W.take k).map encStr).toArray ++ Array.replicate (n + 1 - k) (Value.string ⟨#[]⟩) ++ Array.replicate (G - (n + 1)) (Value.string ⟨#[]⟩)) 9)).heap[w.heap.size]? = _ := heap_alloc_new w _
      have b1 : Below w.heap.size w (w.alloc (.cells (((W.take k).map encStr).toArray ++ Array.replicate (n + 1 - k) (Value.string ⟨#[]⟩) ++ Array.replicate (G - (n + 1)) (Value.string ⟨#[]⟩)) 9)) := (Below.refl _ _).alloc (Nat.le_refl _) _
      have ht1 : TBlk (w.alloc (.cells (((W.take k).map encStr).toArray ++ Array.replicate (n + 1 - k) (Value.string ⟨#[]⟩) ++ Array.replicate (G - (n + 1)) (Value.string ⟨#[]⟩)) 9)) w.heap.size G := by
        refine ⟨_, e1, by simp; omega, fun j u hj => ?_⟩
        have hm := Array.mem_of_getElem? hj
        rcases Array.mem_append.1 hm with hm | hm
        · rcases Array.mem_append.1 hm with hm | hm
          · exact encs_txt (l := W.take k) u (by simpa using hm)
          · exact ⟨_, (Array.mem_replicate.1 hm).2⟩
        · exact ⟨_, (Array.mem_replicate.1 hm).2⟩
      have hold : ∀ (j : Nat) y, j < k → W[j]? = Option.some y → (w.alloc (.cells (((W.take k).map encStr).toArray ++ Array.replicate (n + 1 - k) (Value.string ⟨#[]⟩) ++ Array.replicate (G - (n + 1)) (Value.string ⟨#[]⟩)) 9)).cell? ⟨w.heap.size, j, none⟩ = Option.some (encStr y) := fun j y hj hy => by
        refine rd_cell e1 ?_
        have hjl : j < ((W.take k).map encStr).length := by rw [List.length_map, List.length_take]; omega
        rw [Array.getElem?_append_left (by simp; omega), Array.getElem?_append_left (by simpa using hjl)]
        have : ((W.take k).map encStr)[j]? = Option.some (encStr y) := by
          rw [List.getElem?_map, List.getElem?_take, if_pos hj, hy]
          rfl
        simpa using this
      obtain ⟨WA, hWA⟩ : ∃ WA, w.alloc (.cells (((W.take k).map encStr).toArray ++ Array.replicate (n + 1 - k) (Value.string ⟨#[]⟩) ++ Array.replicate (G - (n + 1)) (Value.string ⟨#[]⟩)) 9) = WA := ⟨_, rfl⟩
      have ht1' := ht1
      have hold' := hold
      have b1' := b1
      rw [hWA] at ht1' hold' b1'
      clear ht1 hold b1 e1
      show (∃ v', Ending.returned _ = .returned v' ∧ WRow (((w.alloc (.cells (((W.take k).map encStr).toArray ++ Array.replicate (n + 1 - k) (Value.string ⟨#[]⟩) ++ Array.replicate (G - (n + 1)) (Value.string ⟨#[]⟩)) 9)).drew.setCells w.heap.size k ([x.data.toList].map encStr)).drew.setCells w.heap.size (k + 1) ((W.drop k).map encStr)) v' _ ∧ _) ∧ Only _ w (((w.alloc (.cells (((W.take k).map encStr).toArray ++ Array.replicate (n + 1 - k) (Value.string ⟨#[]⟩) ++ Array.replicate (G - (n + 1)) (Value.string ⟨#[]⟩)) 9)).drew.setCells w.heap.size k ([x.data.toList].map encStr)).drew.setCells w.heap.size (k + 1) ((W.drop k).map encStr))
      rw [hWA]
      have htA : TBlk WA.drew w.heap.size G := ht1'.same rfl
      have htB := TBlk.set ([x.data.toList].map encStr) k _ htA encs_txt
      have htC : TBlk (WA.drew.setCells w.heap.size k ([x.data.toList].map encStr)).drew w.heap.size G := htB.same rfl
      have htD := TBlk.set ((W.drop k).map encStr) (k + 1) _ htC encs_txt
      refine ⟨⟨_, rfl, Or.inr ⟨w.heap.size, G, by rw [hlen, hn], htD, fun j y hj => ?_, by rw [hlen]; omega, hcm⟩, fun q hq => Or.inr (by simp [Value.ownBlock] at hq; omega)⟩, ?_⟩
      · rcases put_get (by omega) hj with ⟨h1, h2⟩ | ⟨h1, h2⟩ | ⟨h1, h2⟩
        · rw [out_txt _ (Or.inl (by omega))]
          show (WA.drew.setCells w.heap.size k ([x.data.toList].map encStr)).cell? _ = _
          rw [out_txt _ (Or.inl h1)]
          exact hold' j y h1 h2
        · subst h1 h2
          rw [out_txt _ (Or.inl (by omega))]
          have := in_txt htA [x.data.toList] (o := j) (by simp; omega) (j := 0) (x := x.data.toList) rfl
          rw [Nat.add_zero] at this
          exact this
        · obtain ⟨i, hi2⟩ : ∃ i, j = k + 1 + i := ⟨j - k - 1, by omega⟩
          subst hi2
          exact in_txt htC (W.drop k) (o := k + 1) (by rw [List.length_drop]; omega) (j := i) (by rw [List.getElem?_drop, ← h2]; congr 1; omega)
      · have b2 : Below w.heap.size w (WA.drew.setCells w.heap.size k ([x.data.toList].map encStr)) := bset w.heap.size (Nat.le_refl _) _ _ b1'.drew
        exact Only.of (bset w.heap.size (Nat.le_refl _) _ _ b2.drew)
    · have hlast := hnew (Option.some ⟨g, 0, none⟩) n cap hn (by rw [hn]) hle (by omega) (fun e => by cases e) (fun a e j u hj => by
        obtain rfl : (⟨g, 0, none⟩ : Addr) = a := Option.some.inj e
        rw [Addr.add_lit]
        exact hcs j u hj) (by omega)
      rw [hn] at hlast
      exact hlast
end Go.Proofs.YtdmplfflmdanlaaGreatDoor
