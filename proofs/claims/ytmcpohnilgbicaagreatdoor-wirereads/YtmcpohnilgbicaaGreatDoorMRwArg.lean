/-
  What the method arg of letterboxref.command does.
-/
import Derived.Test.YtmcpohnilgbicaaGreatDoorMRwCnt
import Derived.Test.YtmcpohnilgbicaaGreatDoorMRwList
namespace Go.Proofs.YtmcpohnilgbicaaGreatDoor
open Go.RowKit Go.Proofs.Aid Go.Proofs.Hd
open Go.Proofs.Sr (Ar)

theorem rarg_is (cb : Nat) (s : ByteArray) (hcf : cb ≠ 0) (hs : s.size ≤ 1000000) (hE : Ends s.data.toList) :
    ∀ (f d p c : Nat) (w : World), d + f = 7 → CdW w cb s p c 0 (-1) → FineAt w → c ≤ 60 → p + 2 ≤ s.size → (∀ W, But w.heap.size cb w W → NumAt W) →
      Calls Tryz.prog 26 #[.pointer (some ⟨cb, 0, none⟩), .int .i64 (d : Int)] w fun e w' => OutRA w cb s (argW s.data.toList f p c) e w'
  | 0, d, p, c, w, hd, hr, hf, hc, hp, hn => by
    rw [argW]
    exact rarg_limit cb p c d s w hr hf hcf hs hE hp (by omega) (by omega) (Or.inl (by omega))
  | f + 1, d, p, c, w, hd, hr, hf, hc, hp, hn => by
    by_cases h60 : 60 < c + 1
    · rw [argW, if_pos h60]
      exact rarg_limit cb p c d s w hr hf hcf hs hE hp (by omega) (by omega) (Or.inr h60)
    cases hse : seeW s.data.toList p with
    | none =>
      rw [argW_end hE h60 (by rw [wsize]; exact hp) hse]
      exact rarg_end cb p c d s w hr hf hcf hs hE hp (by omega) (by omega) hse
    | some b =>
      have hb := (see_some hse).2
      rw [argW, if_neg h60]
      by_cases h1 : b = 123
      · subst h1
        rw [if_pos (took_one.2 hb)]
        exact rarg_cnt cb p c d s w hr hf hcf hs hE hp (by omega) (by omega) hse hn
      rw [if_neg (not_took hb h1)]
      by_cases h2 : b = 34
      · subst h2
        rw [if_pos (took_one.2 hb)]
        exact rarg_quo cb p c d s w hr hf hcf hs hE hp (by omega) (by omega) hse
      rw [if_neg (not_took hb h2)]
      by_cases h3 : b = 40
      · subst h3
        rw [if_pos (took_one.2 hb)]
        refine rarg_list cb p c d s w hr hf hcf hs hE hp (argW s.data.toList f) (by omega) (by omega) hse (fun p c a p' c' h4 h5 => ?_) (fun W p' c' h4 h5 h6 h7 => ?_)
        · have := arg_ok hE f p c a p' c' (by rw [wsize]; exact h4) h5
          rw [wsize] at this
          exact this
        · exact rarg_is cb s hcf hs hE f (d + 1) p' c' W (by omega) h4 (hf.but h7 hcf) h6 h5 (fun W' h8 => hn W' (h7.trans (h8.less h7.size)))
      rw [if_neg (not_took hb h3)]
      exact rarg_word cb p c d s w hr hf hcf hs hE hp b (by omega) (by omega) hse h2 h1 h3
end Go.Proofs.YtmcpohnilgbicaaGreatDoor
