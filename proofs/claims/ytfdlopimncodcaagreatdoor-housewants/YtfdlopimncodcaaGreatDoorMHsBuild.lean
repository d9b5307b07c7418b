/-
  Boxes are made, one by one.
-/
import Derived.Test.YtfdlopimncodcaaGreatDoorMHsLack
namespace Go.Proofs.YtfdlopimncodcaaGreatDoor
open Go.RowKit Go.Proofs.Aid

theorem nrow_at {w : World} {base : Nat} {v : Value} {l : List Nm} (h : NRow w base v l) {j : Nat} {x : Nm} (hj : l[j]? = some x) : ∃ g cap, v = .slice (some ⟨g, 0, none⟩) l.length cap ∧ w.cell? ⟨g, j, none⟩ = some (encStr x) := by
  have hjl := (List.getElem?_eq_some_iff.1 hj).1
  rcases h.2 with ⟨_, h2⟩ | ⟨g, cap, cur, hv, _, hh, _, _, hsz, htk⟩
  · omega
  · refine ⟨g, cap, hv, rd_cell hh ?_⟩
    have h1 : (l.map encStr)[j]? = some (encStr x) := by rw [List.getElem?_map, hj]; rfl
    rw [← htk, List.getElem?_take] at h1
    split at h1
    · rw [Array.getElem?_toList] at h1; exact h1
    · cases h1
theorem NRow.hk {w w' : World} {base hb mb : Nat} {v : Value} {l : List Nm} {L : Bxs} {nx : Int} {wv : Value} (h : NRow w base v l) (hH : HsAt w hb mb L nx wv) (hk : HK hb mb w w') : NRow w' base v l := by
  refine own_same h fun g hg => ?_
  obtain ⟨c, fz, hc⟩ := row_kind h g hg
  refine hk.block g (Array.getElem?_eq_some_iff.1 hc).1 (fun e => ?_) (fun e => ?_)
  · rw [e, hH.1] at hc
    injection hc with hc
    injection hc with _ e2 _
    exact absurd e2 (by decide)
  · obtain ⟨_, _, D, ⟨es, clock, h2, _⟩, _⟩ := hH
    rw [e, h2] at hc
    cases hc
def putAll (l : Bxs) (ps : Bxs) : Bxs := ps.foldl (fun a p => putB p.1 p.2 a) l
theorem putAll_snoc (l ps : Bxs) (p : Nm × Nat) : putAll l (ps ++ [p]) = putB p.1 p.2 (putAll l ps) := by simp [putAll]
theorem putB_len (n : Nm) (b : Nat) : ∀ l : Bxs, (putB n b l).length ≤ l.length + 1
  | [] => Nat.le_refl _
  | p :: l => by
    unfold putB
    split
    · simp
    · split
      · simp
      · have := putB_len n b l
        simp
        omega
theorem putAll_len (l : Bxs) : ∀ (k : Nat) (ps : Bxs), ps.length = k → (putAll l ps).length ≤ l.length + k
  | 0, ps, h => by rw [List.eq_nil_of_length_eq_zero h]; exact Nat.le_refl _
  | k + 1, ps, h => by
    have hne : ps ≠ [] := fun e => by rw [e] at h; cases h
    have e := List.dropLast_concat_getLast hne
    have hl : ps.dropLast.length = k := by rw [List.length_dropLast]; omega
    rw [← e, putAll_snoc]
    have h1 := putB_len (ps.getLast hne).1 (ps.getLast hne).2 (putAll l ps.dropLast)
    have h2 := putAll_len l k ps.dropLast hl
    omega
/-- New boxes: their names, their numbers one behind the other, in new blocks. -/
def Built (B : Nat) (w : World) (nx : Int) (ns : List Nm) (ps : Bxs) : Prop := ps.map Prod.fst = ns ∧ (∀ (j : Nat) (p : Nm × Nat), ps[j]? = some p → B ≤ p.2 ∧ NewBox w p.2 (nx + (j : Int))) ∧ (ps.map Prod.snd).Pairwise (· < ·)
theorem built_snoc {B : Nat} {w w' : World} {nx : Int} {ns : List Nm} {ps : Bxs} {n : Nm} {hb mb : Nat} {L : Bxs} {mx : Int} {wv : Value} (h : Built B w nx ns ps) (hH : HsAt w hb mb L mx wv) (hk : HK hb mb w w') (hB : B ≤ w.heap.size) (hn : NewBox w' w.heap.size (nx + (ns.length : Int))) : Built B w' nx (ns ++ [n]) (ps ++ [(n, w.heap.size)]) := by
  obtain ⟨h1, h2, h3⟩ := h
  have hlen : ps.length = ns.length := by rw [← h1, List.length_map]
  refine ⟨by rw [List.map_append, h1]; rfl, fun j p hj => ?_, ?_⟩
  · by_cases hjl : j < ps.length
    · rw [List.getElem?_append_left hjl] at hj
      obtain ⟨g1, g2⟩ := h2 j p hj
      refine ⟨g1, (hk.block p.2 (Array.getElem?_eq_some_iff.1 g2).1 (fun e => ?_) (fun e => ?_)).trans g2⟩
      · have g2 : w.heap[p.2]? = _ := g2
        rw [e, hH.1] at g2
        injection g2 with g2
        injection g2 with _ e2 _
        exact absurd e2 (by decide)
      · have g2 : w.heap[p.2]? = _ := g2
        obtain ⟨_, _, D, ⟨es, clock, g3, _⟩, _⟩ := hH
        rw [e, g3] at g2
        cases g2
    · have hj2 := (List.getElem?_eq_some_iff.1 hj).1
      rw [List.length_append, List.length_singleton] at hj2
      obtain rfl : j = ps.length := by omega
      rw [List.getElem?_append_right (Nat.le_refl _), Nat.sub_self] at hj
      obtain rfl : (n, w.heap.size) = p := by simpa using hj
      exact ⟨hB, by rw [hlen]; exact hn⟩
  · rw [List.map_append, List.pairwise_append]
    refine ⟨h3, by simp, fun a ha b hb' => ?_⟩
    obtain ⟨p, hp, rfl⟩ := List.mem_map.1 ha
    obtain ⟨j, hj⟩ := List.getElem?_of_mem hp
    have := (Array.getElem?_eq_some_iff.1 (h2 j p hj).2).1
    have e : b = w.heap.size := by simpa using hb'
    omega
set_option maxHeartbeats 4000000 in
set_option maxRecDepth 100000 in
theorem build_is (hb mb base : Nat) (l : Bxs) (nx : Int) (wv v : Value) (ns : List Nm) (w : World) (h : HsAt w hb mb l nx wv) (hv : NRow w base v ns) (hns : ∀ n ∈ ns, n.length ≤ 1000) (hl : l.length ≤ 100) (hnl : ns.length ≤ 1000) (hn : 0 ≤ nx ∧ nx ≤ 900000) :
    Calls Tryz.prog 92 #[.pointer (some ⟨hb, 0, none⟩), v] w fun e w' => (30 < l.length + ns.length ∧ e = .returned (.iface 42 (.int .i64 12)) ∧ w' = w) ∨
      (l.length + ns.length ≤ 30 ∧ e = .returned .nilIface ∧ HK hb mb w w' ∧ ∃ ps, Built w.heap.size w' nx ns ps ∧ HsAt w' hb mb (putAll l ps) (nx + (ns.length : Int)) wv) := by
  have c0 := h.cell.1
  have hlen := mp_len h.2 3
  obtain ⟨va, vc, rfl⟩ := row_form hv
  by_cases hf : 30 < l.length + ns.length
  · have d0 : decide ((30 : Int) < (l.length : Int) + (ns.length : Int)) = true := decide_eq_true (by omega)
    clear h hv
    go_enter Tryz.func92, Tryz.ntmps92
    go_wp2_with fail
    go_ret
    exact Or.inl ⟨hf, rfl, rfl⟩
  · have d0 : decide ((30 : Int) < (l.length : Int) + (ns.length : Int)) = false := decide_eq_false (by omega)
    obtain ⟨M, hM⟩ : ∃ n, ns.length = n := ⟨_, rfl⟩
    obtain ⟨LL, hLL⟩ : ∃ n, l.length = n := ⟨_, rfl⟩
    have HM : Hid (ns.length = M ∧ l.length = LL ∧ LL + M ≤ 30) := ⟨hM, hLL, by omega⟩
    have HV : Hid (NRow w base (.slice va M vc) ns) := by rw [← hM]; exact hv
    have HH : Hid (HsAt w hb mb l nx wv) := h
    have HNS : Hid (∀ n ∈ ns, n.length ≤ 1000) := hns
    rw [hM] at hnl d0 hf ⊢
    rw [hLL] at hl d0 hf hlen ⊢
    clear h hv hns hM hLL
    go_enter Tryz.func92, Tryz.ntmps92
    go_wp2_with fail
    go_loopw [19] (fun iv wr => ∃ k : Nat, iv = .int .i64 (k : Int) ∧ k ≤ M ∧ Hid (HK hb mb w wr ∧ ∃ ps, Built w.heap.size wr nx (ns.take k) ps ∧ HsAt wr hb mb (putAll l ps) (nx + (k : Int)) wv)) (fun iv _ => M - (intOf iv).toNat)
    case atStart => exact ⟨0, rfl, Nat.zero_le _, HK.refl _ _ _, [], ⟨rfl, fun j p hj => by simp at hj, List.Pairwise.nil⟩, by rw [Int.natCast_zero, Int.add_zero]; exact HH.out⟩
    case round =>
      obtain ⟨k, rfl, hk, HI⟩ := hrel
      by_cases hlt : k < M
      · have d1 : decide ((k : Int) < (M : Int)) = true := decide_eq_true (by omega)
        have i1 : (0 : Int) ≤ (k : Int) := by omega
        have i2 : (k : Int) < (M : Int) := by omega
        obtain ⟨n, hnk⟩ : ∃ n, ns[k]? = some n := ⟨_, List.getElem?_eq_getElem (by have := HM.out.1; omega)⟩
        obtain ⟨hk0, ps, hB, hS⟩ := HI.out
        obtain ⟨g, cap, hvg, hcg0⟩ := nrow_at (HV.out.hk HH.out hk0) hnk
        injection hvg with hva hvb hvc
        subst hva
        clear hvb
        have hnl2 := HNS.out n (List.mem_of_getElem? hnk)
        have hps : ps.length = k := by rw [← List.length_map (f := Prod.fst), hB.1, List.length_take]; have := HM.out.1; omega
        have hpl := putAll_len l k ps hps
        have cA := add_is hb mb (putAll l ps) (nx + (k : Int)) wv ⟨n.toArray⟩ wr hS (by show n.toArray.size ≤ _; simp; omega) (by have := HM.out; omega) (by omega)
        have HN : Hid (∀ w', HsAt w' hb mb (putB n wr.heap.size (putAll l ps)) (nx + (k : Int) + 1) wv → NewBox w' wr.heap.size (nx + (k : Int)) → HK hb mb wr w' → HK hb mb w w' ∧ ∃ ps, Built w.heap.size w' nx (ns.take (k + 1)) ps ∧ HsAt w' hb mb (putAll l ps) (nx + ((k + 1 : Nat) : Int)) wv) := fun w' q1 q2 q3 => by
          refine ⟨hk0.trans q3, ps ++ [(n, wr.heap.size)], ?_, ?_⟩
          · rw [List.take_add_one, hnk]
            refine built_snoc hB hS q3 hk0.size ?_
            rw [List.length_take, HM.out.1, Nat.min_eq_left (by omega)]
            exact q2
          · rw [putAll_snoc, show nx + ((k + 1 : Nat) : Int) = nx + (k : Int) + 1 by omega]
            exact q1
        have hcg : wr.cell? ⟨g, k, none⟩ = some (.string ⟨n.toArray⟩) := hcg0
        clear hcg0 hB hS hps hpl hk0 hvc hnk HI
        go_wp2_with fail
        refine cA.mono ?_
        rintro e w' ⟨rfl, q1, q2, q3⟩
        have HF : Hid _ := HN.out w' (by simpa using q1) q2 q3
        clear q1 q2 q3 cA HN
        go_wp2_with fail
        go_roundw
        case rel => exact ⟨k + 1, by go_num, by omega, HF⟩
        case measure => simp [intOf]; omega
      · have d1 : decide ((k : Int) < (M : Int)) = false := decide_eq_false (by omega)
        obtain rfl : k = M := by omega
        have HF : Hid (HK hb mb w wr ∧ ∃ ps, Built w.heap.size wr nx ns ps ∧ HsAt wr hb mb (putAll l ps) (nx + (k : Int)) wv) := by
          have := HI.out
          rw [List.take_of_length_le (by have := HM.out.1; omega)] at this
          exact this
        clear HI
        go_wp2_with fail
        go_ret
        exact Or.inr ⟨by omega, rfl, HF.out⟩
end Go.Proofs.YtfdlopimncodcaaGreatDoor
