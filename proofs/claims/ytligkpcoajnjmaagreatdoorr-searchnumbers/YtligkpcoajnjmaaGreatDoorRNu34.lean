/-
  What key of package search does.
  What search.Parse does: what is thrown is caught, and told.
-/
import Derived.Test.YtligkpcoajnjmaaGreatDoorRNu18
import Derived.Test.YtligkpcoajnjmaaGreatDoorRNu28
import Derived.Test.YtligkpcoajnjmaaGreatDoorRNu29
import Derived.Test.YtligkpcoajnjmaaGreatDoorRSearchSys
import Derived.Test.YtligkpcoajnjmaaGreatDoorRNu31
import Derived.Test.YtligkpcoajnjmaaGreatDoorRNu32
import Derived.Test.YtligkpcoajnjmaaGreatDoorRNu33
import Derived.Recover
import Derived.Defers
namespace Go.Proofs.YtligkpcoajnjmaaGreatDoorR
open Go.RowKit Go.Proofs.Aid Go.Proofs.Sq Go.Proofs.Hd

theorem EnvB.next {w W : World} {rb : Nat} (h : EnvB w rb) (hb : But w.heap.size rb w W) : EnvB W rb := fun W' h' => h W' (hb.trans (h'.less hb.size))
theorem in_list {y : Sr.Tx} {l : List Sr.Tx} (h : l.contains y = true) : y ∈ l := by simpa using h
set_option maxHeartbeats 2000000 in
set_option maxRecDepth 100000 in
theorem key_word (g : List Sr.Ar → Nat → Sr.Rs Sr.Ky) (hG : Sr.Cnt g) (rb c B d : Nat) (x : Sr.Ar) (l : List Sr.Ar) (v : Value) (Ok : Nat → Prop) (w : World) (henv : EnvB w rb) (hr : RdS w rb v c) (hl : Ags w Ok B (x :: l) v) (hB : B ≤ 1000000) (hrb : rb < w.heap.size) (hO : ∀ k, Ok k → k ≠ rb ∧ k < w.heap.size) (hd : d ≤ 6) (hc : c + 1 ≤ 60) (hx : x.kind ≠ 3)
    (cK : ∀ W l' c' v', RdS W rb v' c' → Ags W Ok B l' v' → But w.heap.size rb w W → c' ≤ 60 → Calls Tryz.prog 101 #[.pointer (some ⟨rb, 0, none⟩), .int .i64 ((d : Int) + 1)] W fun e w' => Out W rb B Ok (g l' c') e w') :
    Calls Tryz.prog 101 #[.pointer (some ⟨rb, 0, none⟩), .int .i64 (d : Int)] w fun e w' => Out w rb B Ok (Sr.wordK g x.text l (c + 1)) e w' := by
  rw [Sr.wordK]
  by_cases p0 : Hd.great x.text = Sr.wAll
  · rw [if_pos p0]; exact key_all rb c B d x l v Ok w hr hl hB hrb hO hd hc hx p0
  rw [if_neg p0]
  by_cases p1 : Sr.wSys.contains (Hd.great x.text) = true
  · rw [if_pos p1]
    have hm := in_list p1
    simp only [Sr.wSys, List.mem_cons, List.not_mem_nil, or_false] at hm
    rcases hm with h | h | h | h | h
    · rw [h]; exact key_seen rb c B d x l v Ok w henv hr hl hB hrb hO hd hc hx h
    · rw [h]; exact key_answered rb c B d x l v Ok w henv hr hl hB hrb hO hd hc hx h
    · rw [h]; exact key_flagged rb c B d x l v Ok w henv hr hl hB hrb hO hd hc hx h
    · rw [h]; exact key_deleted rb c B d x l v Ok w henv hr hl hB hrb hO hd hc hx h
    · rw [h]; exact key_draft rb c B d x l v Ok w henv hr hl hB hrb hO hd hc hx h
  rw [if_neg p1]
  by_cases p2 : Sr.wUn.contains (Hd.great x.text) = true
  · rw [if_pos p2]
    have hm := in_list p2
    simp only [Sr.wUn, Sr.wSys, List.map_cons, List.map_nil, List.mem_cons, List.not_mem_nil, or_false] at hm
    rcases hm with h | h | h | h | h
    · rw [h]; exact key_unseen rb c B d x l v Ok w henv hr hl hB hrb hO hd hc hx h
    · rw [h]; exact key_unanswered rb c B d x l v Ok w henv hr hl hB hrb hO hd hc hx h
    · rw [h]; exact key_unflagged rb c B d x l v Ok w henv hr hl hB hrb hO hd hc hx h
    · rw [h]; exact key_undeleted rb c B d x l v Ok w henv hr hl hB hrb hO hd hc hx h
    · rw [h]; exact key_undraft rb c B d x l v Ok w henv hr hl hB hrb hO hd hc hx h
  rw [if_neg p2]
  by_cases p3 : Hd.great x.text = Sr.wKeyword
  · rw [if_pos p3]; exact key_keyword rb c B d x l v Ok w henv hr hl hB hrb hO hd hc hx p3
  rw [if_neg p3]
  by_cases p4 : Hd.great x.text = 85 :: 78 :: Sr.wKeyword
  · rw [if_pos p4]; exact key_unkeyword rb c B d x l v Ok w henv hr hl hB hrb hO hd hc hx p4
  rw [if_neg p4]
  by_cases p5 : Sr.wFields.contains (Hd.great x.text) = true
  · rw [if_pos p5]
    have hm := in_list p5
    simp only [Sr.wFields, List.mem_cons, List.not_mem_nil, or_false] at hm
    rcases hm with h | h | h | h
    · exact key_from rb c B d x l v Ok w hr hl hB hrb hO hd hc hx h
    · exact key_to rb c B d x l v Ok w hr hl hB hrb hO hd hc hx h
    · exact key_subject rb c B d x l v Ok w hr hl hB hrb hO hd hc hx h
    · exact key_cc rb c B d x l v Ok w hr hl hB hrb hO hd hc hx h
  rw [if_neg p5]
  by_cases p6 : Hd.great x.text = Sr.wHeader
  · rw [if_pos p6]; exact key_header rb c B d x l v Ok w henv hr hl hB hrb hO hd hc hx p6
  rw [if_neg p6]
  by_cases p7 : Hd.great x.text = Sr.wBody
  · rw [if_pos p7]; exact key_body rb c B d x l v Ok w hr hl hB hrb hO hd hc hx p7
  rw [if_neg p7]
  by_cases p8 : Hd.great x.text = Sr.wText
  · rw [if_pos p8]; exact key_text rb c B d x l v Ok w hr hl hB hrb hO hd hc hx p8
  rw [if_neg p8]
  by_cases p9 : Sr.wMeas.contains (Hd.great x.text) = true
  · rw [if_pos p9]
    have hm := in_list p9
    simp only [Sr.wMeas, List.mem_cons, List.not_mem_nil, or_false] at hm
    rcases hm with h | h | h | h | h
    · rw [h, show (6 + ((Sr.wMeas.idxOf [76, 65, 82, 71, 69, 82] : Nat) : Int)) = 6 from by decide]; exact key_larger rb c B d x l v Ok w henv hr hl hB hrb hO hd hc hx h
    · rw [h, show (6 + ((Sr.wMeas.idxOf [83, 77, 65, 76, 76, 69, 82] : Nat) : Int)) = 7 from by decide]; exact key_smaller rb c B d x l v Ok w henv hr hl hB hrb hO hd hc hx h
    · rw [h, show (6 + ((Sr.wMeas.idxOf [66, 69, 70, 79, 82, 69] : Nat) : Int)) = 8 from by decide]; exact key_before rb c B d x l v Ok w henv hr hl hB hrb hO hd hc hx h
    · rw [h, show (6 + ((Sr.wMeas.idxOf [79, 78] : Nat) : Int)) = 9 from by decide]; exact key_on rb c B d x l v Ok w henv hr hl hB hrb hO hd hc hx h
    · rw [h, show (6 + ((Sr.wMeas.idxOf [83, 73, 78, 67, 69] : Nat) : Int)) = 10 from by decide]; exact key_since rb c B d x l v Ok w henv hr hl hB hrb hO hd hc hx h
  rw [if_neg p9]
  by_cases p10 : Hd.great x.text = Sr.wUid
  · rw [if_pos p10]; exact key_uid rb c B d x l v Ok w henv hr hl hB hrb hO hd hc hx p10
  rw [if_neg p10]
  by_cases p11 : Hd.great x.text = Sr.wNot
  · rw [if_pos p11]; exact key_not rb c B d x l v Ok w henv hr hl hB hrb hO hd hc hx p11 g cK
  rw [if_neg p11]
  by_cases p12 : Hd.great x.text = Sr.wOr
  · rw [if_pos p12]; exact key_or g rb c B d x l v Ok w henv hr hl hB hrb hG hO hd hc hx p12 cK
  rw [if_neg p12]
  refine key_nowd rb c B d x l v Ok w henv hr hl hB hrb hO hd hc hx fun y hy e => ?_
  have n1 : ∀ z ∈ Sr.wSys, Hd.great x.text ≠ z := fun z hz e => p1 (by rw [e]; simpa using hz)
  have n2 : ∀ z ∈ Sr.wUn, Hd.great x.text ≠ z := fun z hz e => p2 (by rw [e]; simpa using hz)
  have n5 : ∀ z ∈ Sr.wFields, Hd.great x.text ≠ z := fun z hz e => p5 (by rw [e]; simpa using hz)
  have n9 : ∀ z ∈ Sr.wMeas, Hd.great x.text ≠ z := fun z hz e => p9 (by rw [e]; simpa using hz)
  have hall : wAllWords = [Sr.wAll] ++ Sr.wSys ++ Sr.wUn ++ [Sr.wKeyword, 85 :: 78 :: Sr.wKeyword] ++ Sr.wFields ++ [Sr.wHeader, Sr.wBody, Sr.wText] ++ Sr.wMeas ++ [Sr.wUid, Sr.wNot, Sr.wOr] := by decide
  rw [hall] at hy
  simp only [List.mem_append] at hy
  rcases hy with ((((((hy | hy) | hy) | hy) | hy) | hy) | hy) | hy
  · rw [List.mem_singleton.1 hy] at e; exact p0 e
  · exact n1 y hy e
  · exact n2 y hy e
  · rcases List.mem_cons.1 hy with rfl | hy
    · exact p3 e
    · rw [List.mem_singleton.1 hy] at e; exact p4 e
  · exact n5 y hy e
  · rcases List.mem_cons.1 hy with rfl | hy
    · exact p6 e
    · rcases List.mem_cons.1 hy with rfl | hy
      · exact p7 e
      · rw [List.mem_singleton.1 hy] at e; exact p8 e
  · exact n9 y hy e
  · rcases List.mem_cons.1 hy with rfl | hy
    · exact p10 e
    · rcases List.mem_cons.1 hy with rfl | hy
      · exact p11 e
      · rw [List.mem_singleton.1 hy] at e; exact p12 e
theorem key_is (rb B : Nat) (Ok : Nat → Prop) (hB : B ≤ 1000000) : ∀ (f d c : Nat) (l : List Sr.Ar) (v : Value) (w : World), d + f = 7 → EnvB w rb → RdS w rb v c → Ags w Ok B l v → rb < w.heap.size → (∀ k, Ok k → k ≠ rb ∧ k < w.heap.size) → c ≤ 1000 →
    Calls Tryz.prog 101 #[.pointer (some ⟨rb, 0, none⟩), .int .i64 (d : Int)] w fun e w' => Out w rb B Ok (Sr.keyF f l c) e w'
  | 0, d, c, l, v, w, hdf, henv, hr, hl, hrb, hO, hc => key_limit rb c B d l v Ok w hr hl hrb hO hc (by omega) (Or.inl (by omega))
  | f + 1, d, c, l, v, w, hdf, henv, hr, hl, hrb, hO, hc => by
    by_cases h60 : 60 < c + 1
    · rw [Sr.keyF_lim h60]
      exact key_limit rb c B d l v Ok w hr hl hrb hO hc (by omega) (Or.inr h60)
    · have deep : ∀ W l' c' v', RdS W rb v' c' → Ags W Ok B l' v' → But w.heap.size rb w W → c' ≤ 60 → Calls Tryz.prog 101 #[.pointer (some ⟨rb, 0, none⟩), .int .i64 ((d : Int) + 1)] W fun e w' => Out W rb B Ok (Sr.keyF f l' c') e w' := fun W l' c' v' h1 h2 h3 h4 => by
        have := key_is rb B Ok hB f (d + 1) c' l' v' W (by omega) (henv.next h3) h1 h2 (by have := h3.size; omega) (fun k hk => ⟨(hO k hk).1, by have := (hO k hk).2; have := h3.size; omega⟩) (by omega)
        rw [show ((d + 1 : Nat) : Int) = (d : Int) + 1 by omega] at this
        exact this
      cases l with
      | nil => rw [Sr.keyF_nil h60]; exact key_none rb c B d v Ok w hr hl hrb hO (by omega) (by omega)
      | cons a r =>
        by_cases h3 : a.kind = 3
        · rw [Sr.keyF_list h60 h3]
          refine key_list rb c B d a r v Ok w _ hr hl hrb hO (by omega) (by omega) h3 fun W lv h1 h2 h4 h5 => ?_
          have := keys_is rb (c + 1) B (d + 1) a.list lv Ok W (Sr.keyF f) h1 h2 (by omega) (fun k hk => ⟨(hO k hk).1, by have := (hO k hk).2; omega⟩) (by omega) (Sr.keyF_c f) (fun W' l' c' v' k1 k2 k3 k4 => by
            have := deep W' l' c' v' k1 k2 (h4.trans (k3.less h5)) k4
            rw [show ((d + 1 : Nat) : Int) = (d : Int) + 1 by omega]
            exact this)
          rw [show ((d + 1 : Nat) : Int) = (d : Int) + 1 by omega] at this
          exact this
        · rw [Sr.keyF_word h60 h3]
          exact key_word (Sr.keyF f) (Sr.keyF_c f) rb c B d a r v Ok w henv hr hl hB hrb hO (by omega) (by omega) h3 deep
end Go.Proofs.YtligkpcoajnjmaaGreatDoorR
namespace Go.Proofs.YtligkpcoajnjmaaGreatDoorR
open Go.RowKit Go.Proofs.Aid Go.Proofs.Sq Go.Proofs.Hd

theorem scaught_panic (eb : Nat) (n : Int) (older : List PanicEntry) (v0 : Value) (w : World) (hc : w.cell? ⟨eb, 0, none⟩ = some v0) (hz : w.frozen? ⟨eb, 0, none⟩ = false) :
    CallsD Tryz.prog 41 #[.pointer (some ⟨eb, 0, none⟩)] (.panicking ({ v := .iface 53 (.int .i64 n), recovered := false } :: older)) w fun e u' w' =>
      e = .returned (.tuple #[]) ∧ u' = .panicking ({ v := .iface 53 (.int .i64 n), recovered := true } :: older) ∧ w' = w.setCell ⟨eb, 0, none⟩ (.iface 53 (.int .i64 n)) := by
  refine callsD_of_wpS Tryz.func41 rfl fun c₀ cs hu => ?_
  apply wpS_region
  simp [wpOpsS, go_sem, recoverD, hu, Tryz.ntmps41]
  refine (told_err n w).mono ?_
  rintro e w1 ⟨rfl, rfl⟩
  simp [go_sem, hc, hz, bodyPostS, results, Tryz.results41]
theorem scaught_none (eb : Nat) (v0 : Value) (w : World) (hc : w.cell? ⟨eb, 0, none⟩ = some v0) (hz : w.frozen? ⟨eb, 0, none⟩ = false) :
    CallsD Tryz.prog 41 #[.pointer (some ⟨eb, 0, none⟩)] .returning w fun e u' w' =>
      e = .returned (.tuple #[]) ∧ u' = .returning ∧ w' = w.setCell ⟨eb, 0, none⟩ .nilIface := by
  refine callsD_of_wpS Tryz.func41 rfl fun c₀ cs hu => ?_
  apply wpS_region
  simp [wpOpsS, go_sem, recoverD, hu, Tryz.ntmps41]
  refine (told_nil w).mono ?_
  rintro e w1 ⟨rfl, rfl⟩
  cases c₀
  simp_all [go_sem, bodyPostS, results, Tryz.results41]
/-- What Parse leaves. -/
def OutS (w : World) : Sr.Rs Sr.Ky → Ending → World → Prop
  | .bad n, e, w' => e = .returned (.tuple #[.agg #[.int .i64 0, .string ⟨#[]⟩, .string ⟨#[]⟩, .int .i64 0, .slice none 0 0, .slice none 0 0], .iface 53 (.int .i64 n)]) ∧ Below w.heap.size w w'
  | .ok k _ _, e, w' => ∃ ys, e = .returned (.tuple #[.agg ys.toArray, .nilIface]) ∧ Kx w' (fun q => w.heap.size ≤ q) k ys ∧ Below w.heap.size w w'
set_option maxHeartbeats 4000000 in
set_option maxRecDepth 100000 in
theorem sparse_is (B : Nat) (l : List Sr.Ar) (v : Value) (Ok : Nat → Prop) (w : World) (hB : B ≤ 1000000) (hl : Ags w Ok B l v) (hO : ∀ k, Ok k → k < w.heap.size)
    (hg : ∀ W, Below w.heap.size w W → SysAt W ∧ ErrType W ∧ NumAt W ∧ ∃ m, W.cell? ⟨1, 0, none⟩ = some (.int .i64 m)) :
    Calls Tryz.prog 10 #[v] w fun e w' => OutS w (Sr.parseK l) e w' := by
  have hmf : ∀ (fn : Fn) (first cap : Array Value) (w : World), (Instr.makeFunc fn first cap).run Tryz.prog w = .ok (.func fn first cap) w := fun _ _ _ _ => rfl
  obtain ⟨T, hT⟩ : ∃ T, Sr.parseK l = T := ⟨_, rfl⟩
  rw [hT]
  obtain ⟨va, vc, hv⟩ := hl.form
  obtain ⟨VN, hVN⟩ : ∃ n, l.length = n := ⟨_, rfl⟩
  rw [hVN] at hv
  subst hv
  have HG : Hid (∀ W, Below w.heap.size w W → SysAt W ∧ ErrType W ∧ NumAt W ∧ ∃ m, W.cell? ⟨1, 0, none⟩ = some (.int .i64 m)) := hg
  clear hg
  obtain ⟨W3, hW3⟩ : ∃ W, ((w.alloc (.cells #[.int .i64 0, .string ⟨#[]⟩, .string ⟨#[]⟩, .int .i64 0, .slice none 0 0, .slice none 0 0] 33)).alloc (.cells #[.nilIface] 35)).alloc (.cells #[.slice va VN vc, .int .i64 0] 100) = W := ⟨_, rfl⟩
  have hb3 : Below w.heap.size w W3 := by
    rw [← hW3]
    exact (((Below.refl _ _).alloc (Nat.le_refl _) _).alloc (by simp) _).alloc (by simp; omega) _
  have hz3 : W3.heap.size = w.heap.size + 3 := by rw [← hW3]; simp
  have hr3 : RdS W3 (w.heap.size + 1 + 1) (.slice va VN vc) 0 := by
    rw [← hW3]
    have := heap_alloc_new ((w.alloc (.cells #[.int .i64 0, .string ⟨#[]⟩, .string ⟨#[]⟩, .int .i64 0, .slice none 0 0, .slice none 0 0] 33)).alloc (.cells #[.nilIface] 35)) (.cells #[.slice va VN vc, .int .i64 0] 100)
    have hz : ((w.alloc (.cells #[.int .i64 0, .string ⟨#[]⟩, .string ⟨#[]⟩, .int .i64 0, .slice none 0 0, .slice none 0 0] 33)).alloc (.cells #[.nilIface] 35)).heap.size = w.heap.size + 1 + 1 := by simp
    rw [hz] at this
    exact this
  have he3 : W3.heap[w.heap.size + 1]? = some (.cells #[.nilIface] 35 (0, 0)) := by
    rw [← hW3, Lib.alloc_old _ _ _ (by simp)]
    have := heap_alloc_new (w.alloc (.cells #[.int .i64 0, .string ⟨#[]⟩, .string ⟨#[]⟩, .int .i64 0, .slice none 0 0, .slice none 0 0] 33)) (.cells #[.nilIface] 35)
    have hz : (w.alloc (.cells #[.int .i64 0, .string ⟨#[]⟩, .string ⟨#[]⟩, .int .i64 0, .slice none 0 0, .slice none 0 0] 33)).heap.size = w.heap.size + 1 := by simp
    rw [hz] at this
    exact this
  have hc3 : W3.heap[w.heap.size]? = some (.cells #[.int .i64 0, .string ⟨#[]⟩, .string ⟨#[]⟩, .int .i64 0, .slice none 0 0, .slice none 0 0] 33 (0, 0)) := by
    rw [← hW3, Lib.alloc_old _ _ _ (by simp; omega), Lib.alloc_old _ _ _ (by simp)]
    exact heap_alloc_new _ _
  have cC := keys_is (w.heap.size + 1 + 1) 0 B 0 l (.slice va VN vc) Ok W3 (Sr.keyF 7) hr3 (hl.kept fun k hk hlt => ⟨hk, hb3.block k hlt⟩) (by omega) (fun k hk => ⟨by have := hO k hk; omega, by have := hO k hk; omega⟩) (by omega) (Sr.keyF_c 7) (fun W l' c' v' h1 h2 h3 h4 =>
    key_is (w.heap.size + 1 + 1) B Ok hB 7 0 c' l' v' W rfl (fun W' hW' => HG.out W' ((hb3.trans ⟨h3.os, h3.tape, h3.output, h3.size, fun k hk => h3.block k (by omega) (by omega)⟩).trans ⟨hW'.os, hW'.tape, hW'.output, hW'.size, fun k hk => hW'.block k (by have := h3.size; omega) (by omega)⟩)) h1 h2 (by have := h3.size; omega) (fun k hk => ⟨by have := hO k hk; omega, by have := hO k hk; have := h3.size; omega⟩) (by omega))
  rw [show Sr.keysF (Sr.keyF 7) l 0 = T from hT, show ((0 : Nat) : Int) = 0 from rfl] at cC
  have HX : Hid (Below w.heap.size w W3 ∧ W3.heap.size = w.heap.size + 3 ∧ W3.heap[w.heap.size + 1]? = some (.cells #[.nilIface] 35 (0, 0)) ∧ W3.heap[w.heap.size]? = some (.cells #[.int .i64 0, .string ⟨#[]⟩, .string ⟨#[]⟩, .int .i64 0, .slice none 0 0, .slice none 0 0] 33 (0, 0))) := ⟨hb3, hz3, he3, hc3⟩
  have HW3 : Hid (((w.alloc (.cells #[.int .i64 0, .string ⟨#[]⟩, .string ⟨#[]⟩, .int .i64 0, .slice none 0 0, .slice none 0 0] 33)).alloc (.cells #[.nilIface] 35)).alloc (.cells #[.slice va VN vc, .int .i64 0] 100) = W3) := hW3
  clear hb3 hz3 hr3 he3 hc3 hl hO hT hVN hW3
  go_enter_defers Tryz.func10, Tryz.ntmps10
  go_wp2_with fail
  rw [HW3.out]
  refine cC.mono ?_
  intro e w5 h5
  clear cC HW3
  have hz := HX.out.2.1
  cases T with
  | bad n =>
    obtain ⟨rfl, hb5⟩ := h5
    have e5 := (hb5.block (w.heap.size + 1) (by omega) (by omega)).trans HX.out.2.2.1
    have c5 := (hb5.block w.heap.size (by omega) (by omega)).trans HX.out.2.2.2
    have b5 : Below w.heap.size w w5 := HX.out.1.trans ⟨hb5.os, hb5.tape, hb5.output, hb5.size, fun k hk => hb5.block k (by omega) (by omega)⟩
    have HP : Hid (∀ tmps, tmps[2]? = some (.pointer (some ⟨w.heap.size, 0, none⟩)) → tmps[3]? = some (.pointer (some ⟨w.heap.size + 1, 0, none⟩)) →
        Leaves Tryz.prog Tryz.f10 tmps (fun e w' => OutS w (.bad n) e w') [{ target := .fn (.func 41) #[.pointer (some ⟨w.heap.size + 1, 0, none⟩)], args := #[] }] (.panicking [{ v := .iface 53 (.int .i64 n), recovered := false }]) w5) := by
      intro tmps ht2 ht3
      refine leaves_cons (f := 41) (args := #[.pointer (some ⟨w.heap.size + 1, 0, none⟩)]) (by simp) (by simp [go_sem]) ?_
      refine (scaught_panic (w.heap.size + 1) n [] .nilIface w5 (rd_cell e5 rfl) (rd_free e5 0)).mono ?_
      rintro e u' w6 ⟨rfl, rfl, rfl⟩
      have e6 := rd_set (i := 0) (.iface 53 (.int .i64 n)) e5
      have c6 := (Below.heap_setCell w5 ⟨w.heap.size + 1, 0, none⟩ (.iface 53 (.int .i64 n)) w.heap.size (show w.heap.size ≠ w.heap.size + 1 by omega)).trans c5
      have r0 := rd_cell (j := 0) e6 rfl
      have k0 := rd_cell (j := 0) c6 rfl
      have k1 := rd_cell (j := 1) c6 rfl
      have k2 := rd_cell (j := 2) c6 rfl
      have k3 := rd_cell (j := 3) c6 rfl
      have k4 := rd_cell (j := 4) c6 rfl
      have k5 := rd_cell (j := 5) c6 rfl
      refine ⟨.tuple #[.agg #[.int .i64 0, .string ⟨#[]⟩, .string ⟨#[]⟩, .int .i64 0, .slice none 0 0, .slice none 0 0], .iface 53 (.int .i64 n)], by simp [results, Tryz.results10, go_sem, ht2, ht3, r0, k0, k1, k2, k3, k4, k5], rfl, ?_⟩
      exact b5.setCell (p := ⟨w.heap.size + 1, 0, none⟩) (by show w.heap.size ≤ w.heap.size + 1; omega) _
    clear e5 c5 b5 hb5
    unfold thrown
    go_wp2_with fail
    exact HP.out _ rfl rfl
  | ok k q c =>
    obtain ⟨ys, v5, rfl, hk5, _, _, hb5⟩ := h5
    have hz5 := hb5.size
    obtain ⟨x0, x3, x1, x2, xa, xk, xc, ya, yk, yc, rfl⟩ := kx_cells hk5
    have hta : ([.int .i64 x0, .string x1, .string x2, .int .i64 x3, .slice xa xk xc, .slice ya yk yc] : List Value).toArray = #[.int .i64 x0, .string x1, .string x2, .int .i64 x3, .slice xa xk xc, .slice ya yk yc] := rfl
    rw [hta]
    have e5 := (hb5.block (w.heap.size + 1) (by omega) (by omega)).trans HX.out.2.2.1
    have c5 := (hb5.block w.heap.size (by omega) (by omega)).trans HX.out.2.2.2
    obtain ⟨⟨s0, s1, s2, s3, s4, s5⟩, ⟨sf0, sf1, sf2, sf3, sf4, sf5⟩, u0, u1, u2, u3, u4, u5⟩ := six_facts c5 (.int .i64 x0) (.string x1) (.string x2) (.int .i64 x3) (.slice xa xk xc) (.slice ya yk yc)
    have c6 := six_set c5 (.int .i64 x0) (.string x1) (.string x2) (.int .i64 x3) (.slice xa xk xc) (.slice ya yk yc)
    have e6 := (six_other w5 (R := w.heap.size) (k := w.heap.size + 1) (by omega) (.int .i64 x0) (.string x1) (.string x2) (.int .i64 x3) (.slice xa xk xc) (.slice ya yk yc)).trans e5
    have b5 : Below w.heap.size w w5 := HX.out.1.trans ⟨hb5.os, hb5.tape, hb5.output, hb5.size, fun k hk => hb5.block k (by omega) (by omega)⟩
    have b6 := (((((b5.setCell (p := ⟨w.heap.size, 0, none⟩) (Nat.le_refl _) (.int .i64 x0)).setCell (p := ⟨w.heap.size, 1, none⟩) (Nat.le_refl _) (.string x1)).setCell (p := ⟨w.heap.size, 2, none⟩) (Nat.le_refl _) (.string x2)).setCell (p := ⟨w.heap.size, 3, none⟩) (Nat.le_refl _) (.int .i64 x3)).setCell (p := ⟨w.heap.size, 4, none⟩) (Nat.le_refl _) (.slice xa xk xc)).setCell (p := ⟨w.heap.size, 5, none⟩) (Nat.le_refl _) (.slice ya yk yc)
    have hk6 := hk5.kept (Ok' := fun q => W3.heap.size ≤ q) (w' := (((((w5.setCell ⟨w.heap.size, 0, none⟩ (.int .i64 x0)).setCell ⟨w.heap.size, 1, none⟩ (.string x1)).setCell ⟨w.heap.size, 2, none⟩ (.string x2)).setCell ⟨w.heap.size, 3, none⟩ (.int .i64 x3)).setCell ⟨w.heap.size, 4, none⟩ (.slice xa xk xc)).setCell ⟨w.heap.size, 5, none⟩ (.slice ya yk yc)) fun q hq hlt => ⟨hq, six_other _ (by omega) _ _ _ _ _ _⟩
    obtain ⟨W6, hW6⟩ : ∃ W, (((((w5.setCell ⟨w.heap.size, 0, none⟩ (.int .i64 x0)).setCell ⟨w.heap.size, 1, none⟩ (.string x1)).setCell ⟨w.heap.size, 2, none⟩ (.string x2)).setCell ⟨w.heap.size, 3, none⟩ (.int .i64 x3)).setCell ⟨w.heap.size, 4, none⟩ (.slice xa xk xc)).setCell ⟨w.heap.size, 5, none⟩ (.slice ya yk yc) = W := ⟨_, rfl⟩
    rw [hW6] at c6 e6 b6 hk6
    have y0 : W6.cell? ⟨w.heap.size + 1, 0, none⟩ = some .nilIface := rd_cell e6 rfl
    have y1 : W6.frozen? ⟨w.heap.size + 1, 0, none⟩ = false := rd_free e6 0
    have HF : Hid (∀ tmps, tmps[2]? = some (.pointer (some ⟨w.heap.size, 0, none⟩)) → tmps[3]? = some (.pointer (some ⟨w.heap.size + 1, 0, none⟩)) →
        Leaves Tryz.prog Tryz.f10 tmps (fun e w' => OutS w (.ok k q c) e w') [{ target := .fn (.func 41) #[.pointer (some ⟨w.heap.size + 1, 0, none⟩)], args := #[] }] .returning (W6.setCell ⟨w.heap.size + 1, 0, none⟩ .nilIface)) := by
      intro tmps ht2 ht3
      have e7 := rd_set (i := 0) .nilIface e6
      refine leaves_cons (f := 41) (args := #[.pointer (some ⟨w.heap.size + 1, 0, none⟩)]) (by simp) (by simp [go_sem]) ?_
      refine (scaught_none (w.heap.size + 1) .nilIface _ (rd_cell e7 rfl) (rd_free e7 0)).mono ?_
      rintro e u' w8 ⟨rfl, rfl, rfl⟩
      have e8 := rd_set (i := 0) .nilIface e7
      have far : ∀ j, j ≠ w.heap.size + 1 → ((W6.setCell ⟨w.heap.size + 1, 0, none⟩ .nilIface).setCell ⟨w.heap.size + 1, 0, none⟩ .nilIface).heap[j]? = W6.heap[j]? := fun j hj => by
        rw [Below.heap_setCell _ _ _ _ hj, Below.heap_setCell _ _ _ _ hj]
      have c8 := (far w.heap.size (by omega)).trans c6
      have r0 := rd_cell (j := 0) e8 rfl
      have k0 := rd_cell (j := 0) c8 rfl
      have k1 := rd_cell (j := 1) c8 rfl
      have k2 := rd_cell (j := 2) c8 rfl
      have k3 := rd_cell (j := 3) c8 rfl
      have k4 := rd_cell (j := 4) c8 rfl
      have k5 := rd_cell (j := 5) c8 rfl
      refine ⟨.tuple #[.agg #[.int .i64 x0, .string x1, .string x2, .int .i64 x3, .slice xa xk xc, .slice ya yk yc], .nilIface], by simp [results, Tryz.results10, go_sem, ht2, ht3, r0, k0, k1, k2, k3, k4, k5], ?_⟩
      refine ⟨[.int .i64 x0, .string x1, .string x2, .int .i64 x3, .slice xa xk xc, .slice ya yk yc], rfl, hk6.kept fun q hq hlt => ⟨by omega, far q (by omega)⟩, ?_⟩
      exact (b6.setCell (p := ⟨w.heap.size + 1, 0, none⟩) (by show w.heap.size ≤ w.heap.size + 1; omega) _).setCell (p := ⟨w.heap.size + 1, 0, none⟩) (by show w.heap.size ≤ w.heap.size + 1; omega) _
    clear e5 c5 c6 e6 b5 b6 hk5 hk6 hb5 hta
    go_wp2_with fail
    exact HF.out _ rfl rfl
end Go.Proofs.YtligkpcoajnjmaaGreatDoorR
