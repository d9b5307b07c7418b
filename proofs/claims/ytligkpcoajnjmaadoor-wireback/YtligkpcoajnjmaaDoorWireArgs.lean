/-
  What the method arg of wire.reader does at each kind of part.
-/
import Derived.Test.YtligkpcoajnjmaaDoorWireArg
namespace Go.Proofs.YtligkpcoajnjmaaDoor
open Go.RowKit Go.Proofs.Aid Go.Proofs.Hd

set_option maxHeartbeats 2000000 in
set_option maxRecDepth 100000 in
theorem arg_counted (rb p c d : Nat) (s : ByteArray) (m : Int) (w : World) (hr : RdW w rb s p c) (hs : s.size ≤ 1000000) (hE : Ends s.data.toList) (hp : p + 2 ≤ s.size) (henv : EnvW w rb m) (hc : c + 1 ≤ 60) (hd : d ≤ 6) (h123 : tookW [123] s.data.toList p = true) :
    Calls Tryd.prog 52 #[.pointer (some ⟨rb, 0, none⟩), .int .i64 (d : Int)] w fun e w' => OutA w rb s ((countedW s.data.toList p (c + 1)).map fun t => .mk 2 t []) e w' := by
  obtain ⟨W1, W2, hW1, hW2, p1, f1, q1, z2, hr2, hb2, hE2⟩ := arg_begun rb p c s w hr
  have hrb := hr.lt
  have d1 : decide ((6 : Int) < (d : Int)) = false := decide_eq_false (by omega)
  have d2 : decide ((60 : Int) < (c : Int) + 1) = false := decide_eq_false (by omega)
  have cR := rest_is rb p (c + 1) s W2 hr2 (by omega)
  have cP : ∀ W, Calls Tryd.prog 74 #[.string (s.extract p s.size), .string ⟨#[123]⟩] W fun e w' => e = .returned (.bool true) ∧ w' = W := fun W => by
    have := Tryd.strings_HasPrefix (s.extract p s.size) ⟨#[123]⟩ W
    rw [took_has 123 s p, h123] at this
    exact this
  obtain ⟨T, hT⟩ : ∃ T, countedW s.data.toList p (c + 1) = T := ⟨_, rfl⟩
  rw [hT]
  have HT : Hid (countedW s.data.toList p (c + 1) = T) := hT
  have HENV : Hid (EnvW w rb m) := henv
  have HEN : Hid (Ends s.data.toList) := hE
  have HX : Hid (RdW W2 rb s p (c + 1) ∧ But w.heap.size rb w W2 ∧ W2.heap[w.heap.size]? = some (.cells #[.int .i64 0, .string ⟨#[]⟩, .slice none 0 0] 68 (0, 0)) ∧ W2.heap.size = w.heap.size + 1) := ⟨hr2, hb2, hE2, z2⟩
  clear hr hr2 hb2 hE2 z2 hT henv hE
  go_enter Tryd.func52, Tryd.ntmps52
  go_wp2_with fail
  refine cR.mono ?_
  rintro e w3 ⟨rfl, hb3⟩
  have hs3 := hb3.size
  have z2 := HX.out.2.2.2
  have HX3 : Hid (RdW w3 rb s p (c + 1) ∧ But w.heap.size rb w w3 ∧ w3.heap[w.heap.size]? = some (.cells #[.int .i64 0, .string ⟨#[]⟩, .slice none 0 0] 68 (0, 0)) ∧ w.heap.size + 1 ≤ w3.heap.size) := ⟨HX.out.1.kept (hb3.block rb (by omega)), HX.out.2.1.trans (to_but (hb3.mono (by omega))), (hb3.block w.heap.size (by omega)).trans HX.out.2.2.1, by omega⟩
  clear cR hb3 HX hs3 z2
  go_wp2_with fail
  refine (cP _).mono ?_
  rintro e w4 ⟨rfl, hw4⟩
  obtain rfl : w3 = w4 := hw4.symm
  clear cP
  have cC := counted_is rb p (c + 1) s m w3 HX3.out.1 hs h123 (fun W hW => (HENV.out W (HX3.out.2.1.trans (to_but (hW.mono (by have := HX3.out.2.2.2; omega))))).2) (HENV.out w3 HX3.out.2.1).1
  rw [HT.out] at cC
  have hz3 := HX3.out.2.2.2
  go_wp2_with fail
  refine cC.mono ?_
  intro e w7 h7
  clear cC
  cases T with
  | bad n q =>
    obtain ⟨N, rfl, hN, hA, hb7⟩ := h7
    have HD : Hid (w.heap.size ≤ N ∧ AtIs w7 N n q ∧ But w.heap.size rb w w7) := ⟨by omega, hA, HX3.out.2.1.trans (hb7.less (by omega))⟩
    clear hN hA hb7
    unfold thrownA
    go_wp2_with fail
    exact ⟨rfl, N, rfl, HD.out⟩
  | ok t q c7 =>
    obtain ⟨tb, rfl, htb, hr7, hb7⟩ := h7
    have e7 := (hb7.block w.heap.size (by omega) (by omega)).trans HX3.out.2.2.1
    obtain ⟨⟨s0, s1, s2⟩, ⟨sf0, sf1, sf2⟩, u0, u1, u2⟩ := three_facts e7 (.int .i64 2) (.string tb) (.slice none 0 0)
    have HD : Hid (OutA w rb s (.ok (.mk 2 t []) q c7) (.returned (.agg #[.int .i64 2, .string tb, .slice none 0 0])) _) := arg_done hrb htb (Agw.nil w7 _) hr7 (HX3.out.2.1.trans (hb7.less (by omega)))
    clear htb hr7 hb7 e7
    go_wp2_with fail
    exact bodyPost_ret (v := .agg #[.int .i64 2, .string tb, .slice none 0 0]) (by simp [results, Tryd.results52, go_sem, u0, u1, u2]) rfl HD.out
set_option maxHeartbeats 2000000 in
set_option maxRecDepth 100000 in
theorem arg_quoted (rb p c d : Nat) (s : ByteArray) (m : Int) (w : World) (hr : RdW w rb s p c) (hs : s.size ≤ 1000000) (hE : Ends s.data.toList) (hp : p + 2 ≤ s.size) (henv : EnvW w rb m) (hc : c + 1 ≤ 60) (hd : d ≤ 6) (h123 : tookW [123] s.data.toList p = false) (h34 : tookW [34] s.data.toList p = true) :
    Calls Tryd.prog 52 #[.pointer (some ⟨rb, 0, none⟩), .int .i64 (d : Int)] w fun e w' => OutA w rb s ((quotedW s.data.toList (p + 1) (c + 1) [] s.size).map fun t => .mk 2 t []) e w' := by
  obtain ⟨W1, W2, hW1, hW2, p1, f1, q1, z2, hr2, hb2, hE2⟩ := arg_begun rb p c s w hr
  have hrb := hr.lt
  have d1 : decide ((6 : Int) < (d : Int)) = false := decide_eq_false (by omega)
  have d2 : decide ((60 : Int) < (c : Int) + 1) = false := decide_eq_false (by omega)
  have cR := rest_is rb p (c + 1) s W2 hr2 (by omega)
  have cP : ∀ W, Calls Tryd.prog 74 #[.string (s.extract p s.size), .string ⟨#[123]⟩] W fun e w' => e = .returned (.bool false) ∧ w' = W := fun W => by
    have := Tryd.strings_HasPrefix (s.extract p s.size) ⟨#[123]⟩ W
    rw [took_has 123 s p, h123] at this
    exact this
  obtain ⟨T, hT⟩ : ∃ T, quotedW s.data.toList (p + 1) (c + 1) [] s.size = T := ⟨_, rfl⟩
  rw [hT]
  have HT : Hid (quotedW s.data.toList (p + 1) (c + 1) [] s.size = T) := hT
  have HENV : Hid (EnvW w rb m) := henv
  have HEN : Hid (Ends s.data.toList) := hE
  have HX : Hid (RdW W2 rb s p (c + 1) ∧ But w.heap.size rb w W2 ∧ W2.heap[w.heap.size]? = some (.cells #[.int .i64 0, .string ⟨#[]⟩, .slice none 0 0] 68 (0, 0)) ∧ W2.heap.size = w.heap.size + 1) := ⟨hr2, hb2, hE2, z2⟩
  clear hr hr2 hb2 hE2 z2 hT henv hE
  go_enter Tryd.func52, Tryd.ntmps52
  go_wp2_with fail
  refine cR.mono ?_
  rintro e w3 ⟨rfl, hb3⟩
  have hs3 := hb3.size
  have z2 := HX.out.2.2.2
  have HX3 : Hid (RdW w3 rb s p (c + 1) ∧ But w.heap.size rb w w3 ∧ w3.heap[w.heap.size]? = some (.cells #[.int .i64 0, .string ⟨#[]⟩, .slice none 0 0] 68 (0, 0)) ∧ w.heap.size + 1 ≤ w3.heap.size) := ⟨HX.out.1.kept (hb3.block rb (by omega)), HX.out.2.1.trans (to_but (hb3.mono (by omega))), (hb3.block w.heap.size (by omega)).trans HX.out.2.2.1, by omega⟩
  clear cR hb3 HX hs3 z2
  go_wp2_with fail
  refine (cP _).mono ?_
  rintro e w4 ⟨rfl, hw4⟩
  obtain rfl : w3 = w4 := hw4.symm
  clear cP
  have cT := took_yes 34 rb p (c + 1) s w3 HX3.out.1 hs (by omega) h34
  go_wp2_with fail
  refine cT.mono ?_
  rintro e w5 ⟨rfl, hrr, hb⟩
  have hsz := hb.size
  have hz3 := HX3.out.2.2.2
  have HX4 : Hid (RdW w5 rb s (p + 1) (c + 1) ∧ But w.heap.size rb w w5 ∧ w5.heap[w.heap.size]? = some (.cells #[.int .i64 0, .string ⟨#[]⟩, .slice none 0 0] 68 (0, 0)) ∧ w.heap.size + 1 ≤ w5.heap.size) := ⟨hrr, HX3.out.2.1.trans (hb.less (by omega)), (hb.block w.heap.size (by omega) (by omega)).trans HX3.out.2.2.1, by omega⟩
  clear cT hb hrr HX3 hsz hz3
  have cC := quoted_is rb (p + 1) (c + 1) s w5 HX4.out.1 hs HEN.out (by have := HEN.out.took h34 (by decide) (by decide); rw [wsize] at this; omega)
  rw [HT.out] at cC
  have hz3 := HX4.out.2.2.2
  go_wp2_with fail
  refine cC.mono ?_
  intro e w7 h7
  clear cC
  cases T with
  | bad n q =>
    obtain ⟨N, rfl, hN, hA, hb7⟩ := h7
    have HD : Hid (w.heap.size ≤ N ∧ AtIs w7 N n q ∧ But w.heap.size rb w w7) := ⟨by omega, hA, HX4.out.2.1.trans (hb7.less (by omega))⟩
    clear hN hA hb7
    unfold thrownA
    go_wp2_with fail
    exact ⟨rfl, N, rfl, HD.out⟩
  | ok t q c7 =>
    obtain ⟨tb, rfl, htb, hr7, hb7⟩ := h7
    have e7 := (hb7.block w.heap.size (by omega) (by omega)).trans HX4.out.2.2.1
    obtain ⟨⟨s0, s1, s2⟩, ⟨sf0, sf1, sf2⟩, u0, u1, u2⟩ := three_facts e7 (.int .i64 2) (.string tb) (.slice none 0 0)
    have HD : Hid (OutA w rb s (.ok (.mk 2 t []) q c7) (.returned (.agg #[.int .i64 2, .string tb, .slice none 0 0])) _) := arg_done hrb htb (Agw.nil w7 _) hr7 (HX4.out.2.1.trans (hb7.less (by omega)))
    clear htb hr7 hb7 e7
    go_wp2_with fail
    exact bodyPost_ret (v := .agg #[.int .i64 2, .string tb, .slice none 0 0]) (by simp [results, Tryd.results52, go_sem, u0, u1, u2]) rfl HD.out
set_option maxHeartbeats 2000000 in
set_option maxRecDepth 100000 in
theorem arg_word (rb p c d : Nat) (s : ByteArray) (m : Int) (w : World) (hr : RdW w rb s p c) (hs : s.size ≤ 1000000) (hE : Ends s.data.toList) (hp : p + 2 ≤ s.size) (henv : EnvW w rb m) (hc : c + 1 ≤ 60) (hd : d ≤ 6) (h123 : tookW [123] s.data.toList p = false) (h34 : tookW [34] s.data.toList p = false) (h40 : tookW [40] s.data.toList p = false) :
    Calls Tryd.prog 52 #[.pointer (some ⟨rb, 0, none⟩), .int .i64 (d : Int)] w fun e w' => OutA w rb s ((wordW s.data.toList p (c + 1)).map fun t => .mk 1 t []) e w' := by
  obtain ⟨W1, W2, hW1, hW2, p1, f1, q1, z2, hr2, hb2, hE2⟩ := arg_begun rb p c s w hr
  have hrb := hr.lt
  have d1 : decide ((6 : Int) < (d : Int)) = false := decide_eq_false (by omega)
  have d2 : decide ((60 : Int) < (c : Int) + 1) = false := decide_eq_false (by omega)
  have cR := rest_is rb p (c + 1) s W2 hr2 (by omega)
  have cP : ∀ W, Calls Tryd.prog 74 #[.string (s.extract p s.size), .string ⟨#[123]⟩] W fun e w' => e = .returned (.bool false) ∧ w' = W := fun W => by
    have := Tryd.strings_HasPrefix (s.extract p s.size) ⟨#[123]⟩ W
    rw [took_has 123 s p, h123] at this
    exact this
  obtain ⟨T, hT⟩ : ∃ T, wordW s.data.toList p (c + 1) = T := ⟨_, rfl⟩
  rw [hT]
  have HT : Hid (wordW s.data.toList p (c + 1) = T) := hT
  have HENV : Hid (EnvW w rb m) := henv
  have HEN : Hid (Ends s.data.toList) := hE
  have HX : Hid (RdW W2 rb s p (c + 1) ∧ But w.heap.size rb w W2 ∧ W2.heap[w.heap.size]? = some (.cells #[.int .i64 0, .string ⟨#[]⟩, .slice none 0 0] 68 (0, 0)) ∧ W2.heap.size = w.heap.size + 1) := ⟨hr2, hb2, hE2, z2⟩
  clear hr hr2 hb2 hE2 z2 hT henv hE
  go_enter Tryd.func52, Tryd.ntmps52
  go_wp2_with fail
  refine cR.mono ?_
  rintro e w3 ⟨rfl, hb3⟩
  have hs3 := hb3.size
  have z2 := HX.out.2.2.2
  have HX3 : Hid (RdW w3 rb s p (c + 1) ∧ But w.heap.size rb w w3 ∧ w3.heap[w.heap.size]? = some (.cells #[.int .i64 0, .string ⟨#[]⟩, .slice none 0 0] 68 (0, 0)) ∧ w.heap.size + 1 ≤ w3.heap.size) := ⟨HX.out.1.kept (hb3.block rb (by omega)), HX.out.2.1.trans (to_but (hb3.mono (by omega))), (hb3.block w.heap.size (by omega)).trans HX.out.2.2.1, by omega⟩
  clear cR hb3 HX hs3 z2
  go_wp2_with fail
  refine (cP _).mono ?_
  rintro e w4 ⟨rfl, hw4⟩
  obtain rfl : w3 = w4 := hw4.symm
  clear cP
  have cT := took_no 34 rb p (c + 1) s w3 HX3.out.1 (by omega) h34
  go_wp2_with fail
  refine cT.mono ?_
  rintro e w5 ⟨rfl, hb⟩
  have hsz := hb.size
  have hz3 := HX3.out.2.2.2
  have HX4 : Hid (RdW w5 rb s p (c + 1) ∧ But w.heap.size rb w w5 ∧ w5.heap[w.heap.size]? = some (.cells #[.int .i64 0, .string ⟨#[]⟩, .slice none 0 0] 68 (0, 0)) ∧ w.heap.size + 1 ≤ w5.heap.size) := ⟨HX3.out.1.kept (hb.block rb (by omega)), HX3.out.2.1.trans (to_but (hb.mono (by omega))), (hb.block w.heap.size (by omega)).trans HX3.out.2.2.1, by omega⟩
  clear cT hb HX3 hsz hz3
  have cT := took_no 40 rb p (c + 1) s w5 HX4.out.1 (by omega) h40
  go_wp2_with fail
  refine cT.mono ?_
  rintro e w6 ⟨rfl, hb⟩
  have hsz := hb.size
  have hz3 := HX4.out.2.2.2
  have HX5 : Hid (RdW w6 rb s p (c + 1) ∧ But w.heap.size rb w w6 ∧ w6.heap[w.heap.size]? = some (.cells #[.int .i64 0, .string ⟨#[]⟩, .slice none 0 0] 68 (0, 0)) ∧ w.heap.size + 1 ≤ w6.heap.size) := ⟨HX4.out.1.kept (hb.block rb (by omega)), HX4.out.2.1.trans (to_but (hb.mono (by omega))), (hb.block w.heap.size (by omega)).trans HX4.out.2.2.1, by omega⟩
  clear cT hb HX4 hsz hz3
  have cC := wword_is rb p (c + 1) s w6 HX5.out.1 hs (by omega)
  rw [HT.out] at cC
  have hz3 := HX5.out.2.2.2
  go_wp2_with fail
  refine cC.mono ?_
  intro e w7 h7
  clear cC
  cases T with
  | bad n q =>
    obtain ⟨N, rfl, hN, hA, hb7⟩ := h7
    have HD : Hid (w.heap.size ≤ N ∧ AtIs w7 N n q ∧ But w.heap.size rb w w7) := ⟨by omega, hA, HX5.out.2.1.trans (hb7.less (by omega))⟩
    clear hN hA hb7
    unfold thrownA
    go_wp2_with fail
    exact ⟨rfl, N, rfl, HD.out⟩
  | ok t q c7 =>
    obtain ⟨tb, rfl, htb, hr7, hb7⟩ := h7
    have e7 := (hb7.block w.heap.size (by omega) (by omega)).trans HX5.out.2.2.1
    obtain ⟨⟨s0, s1, s2⟩, ⟨sf0, sf1, sf2⟩, u0, u1, u2⟩ := three_facts e7 (.int .i64 1) (.string tb) (.slice none 0 0)
    have HD : Hid (OutA w rb s (.ok (.mk 1 t []) q c7) (.returned (.agg #[.int .i64 1, .string tb, .slice none 0 0])) _) := arg_done hrb htb (Agw.nil w7 _) hr7 (HX5.out.2.1.trans (hb7.less (by omega)))
    clear htb hr7 hb7 e7
    go_wp2_with fail
    exact bodyPost_ret (v := .agg #[.int .i64 1, .string tb, .slice none 0 0]) (by simp [results, Tryd.results52, go_sem, u0, u1, u2]) rfl HD.out
set_option maxHeartbeats 2000000 in
set_option maxRecDepth 100000 in
theorem arg_list (rb p c d : Nat) (s : ByteArray) (m : Int) (w : World) (hr : RdW w rb s p c) (hs : s.size ≤ 1000000) (hE : Ends s.data.toList) (hp : p + 2 ≤ s.size) (henv : EnvW w rb m) (hc : c + 1 ≤ 60) (hd : d ≤ 6) (h123 : tookW [123] s.data.toList p = false) (h34 : tookW [34] s.data.toList p = false) (h40 : tookW [40] s.data.toList p = true) (g : Nat → Nat → Wd Sr.Ar)
    (hG : ∀ p c a p' c', p + 2 ≤ s.size → g p c = .ok a p' c' → p' ≤ s.size ∧ c < c' ∧ c' ≤ 60)
    (cK : ∀ W p' c', RdW W rb s p' c' → p' + 2 ≤ s.size → c' ≤ 60 → But w.heap.size rb w W → Calls Tryd.prog 52 #[.pointer (some ⟨rb, 0, none⟩), .int .i64 ((d + 1 : Nat) : Int)] W fun e w' => OutA W rb s (g p' c') e w') :
    Calls Tryd.prog 52 #[.pointer (some ⟨rb, 0, none⟩), .int .i64 (d : Int)] w fun e w' => OutA w rb s ((listW g s.data.toList (p + 1) (c + 1)).map fun l => .mk 3 [] l) e w' := by
  obtain ⟨W1, W2, hW1, hW2, p1, f1, q1, z2, hr2, hb2, hE2⟩ := arg_begun rb p c s w hr
  have hrb := hr.lt
  have d1 : decide ((6 : Int) < (d : Int)) = false := decide_eq_false (by omega)
  have d2 : decide ((60 : Int) < (c : Int) + 1) = false := decide_eq_false (by omega)
  have cR := rest_is rb p (c + 1) s W2 hr2 (by omega)
  have cP : ∀ W, Calls Tryd.prog 74 #[.string (s.extract p s.size), .string ⟨#[123]⟩] W fun e w' => e = .returned (.bool false) ∧ w' = W := fun W => by
    have := Tryd.strings_HasPrefix (s.extract p s.size) ⟨#[123]⟩ W
    rw [took_has 123 s p, h123] at this
    exact this
  obtain ⟨T, hT⟩ : ∃ T, listW g s.data.toList (p + 1) (c + 1) = T := ⟨_, rfl⟩
  rw [hT]
  have HT : Hid (listW g s.data.toList (p + 1) (c + 1) = T) := hT
  have HENV : Hid (EnvW w rb m) := henv
  have HEN : Hid (Ends s.data.toList) := hE
  have HX : Hid (RdW W2 rb s p (c + 1) ∧ But w.heap.size rb w W2 ∧ W2.heap[w.heap.size]? = some (.cells #[.int .i64 0, .string ⟨#[]⟩, .slice none 0 0] 68 (0, 0)) ∧ W2.heap.size = w.heap.size + 1) := ⟨hr2, hb2, hE2, z2⟩
  clear hr hr2 hb2 hE2 z2 hT henv hE
  go_enter Tryd.func52, Tryd.ntmps52
  go_wp2_with fail
  refine cR.mono ?_
  rintro e w3 ⟨rfl, hb3⟩
  have hs3 := hb3.size
  have z2 := HX.out.2.2.2
  have HX3 : Hid (RdW w3 rb s p (c + 1) ∧ But w.heap.size rb w w3 ∧ w3.heap[w.heap.size]? = some (.cells #[.int .i64 0, .string ⟨#[]⟩, .slice none 0 0] 68 (0, 0)) ∧ w.heap.size + 1 ≤ w3.heap.size) := ⟨HX.out.1.kept (hb3.block rb (by omega)), HX.out.2.1.trans (to_but (hb3.mono (by omega))), (hb3.block w.heap.size (by omega)).trans HX.out.2.2.1, by omega⟩
  clear cR hb3 HX hs3 z2
  go_wp2_with fail
  refine (cP _).mono ?_
  rintro e w4 ⟨rfl, hw4⟩
  obtain rfl : w3 = w4 := hw4.symm
  clear cP
  have cT := took_no 34 rb p (c + 1) s w3 HX3.out.1 (by omega) h34
  go_wp2_with fail
  refine cT.mono ?_
  rintro e w5 ⟨rfl, hb⟩
  have hsz := hb.size
  have hz3 := HX3.out.2.2.2
  have HX4 : Hid (RdW w5 rb s p (c + 1) ∧ But w.heap.size rb w w5 ∧ w5.heap[w.heap.size]? = some (.cells #[.int .i64 0, .string ⟨#[]⟩, .slice none 0 0] 68 (0, 0)) ∧ w.heap.size + 1 ≤ w5.heap.size) := ⟨HX3.out.1.kept (hb.block rb (by omega)), HX3.out.2.1.trans (to_but (hb.mono (by omega))), (hb.block w.heap.size (by omega)).trans HX3.out.2.2.1, by omega⟩
  clear cT hb HX3 hsz hz3
  have cT := took_yes 40 rb p (c + 1) s w5 HX4.out.1 hs (by omega) h40
  go_wp2_with fail
  refine cT.mono ?_
  rintro e w6 ⟨rfl, hrr, hb⟩
  have hsz := hb.size
  have hz3 := HX4.out.2.2.2
  have HX5 : Hid (RdW w6 rb s (p + 1) (c + 1) ∧ But w.heap.size rb w w6 ∧ w6.heap[w.heap.size]? = some (.cells #[.int .i64 0, .string ⟨#[]⟩, .slice none 0 0] 68 (0, 0)) ∧ w.heap.size + 1 ≤ w6.heap.size) := ⟨hrr, HX4.out.2.1.trans (hb.less (by omega)), (hb.block w.heap.size (by omega) (by omega)).trans HX4.out.2.2.1, by omega⟩
  clear cT hb hrr HX4 hsz hz3
  have hz4 := HX5.out.2.2.2
  have hp1 := HEN.out.took h40 (by decide) (by decide)
  rw [wsize] at hp1
  have cC := list_wis rb (p + 1) (c + 1) (d + 1) s w6 g HX5.out.1 hs HEN.out hp1 hc hG (fun W p' c' h1 h2 h0 h3 => cK W p' c' h1 h2 h0 (HX5.out.2.1.trans (h3.less (by omega))))
  rw [HT.out, show ((d + 1 : Nat) : Int) = (d : Int) + 1 by omega] at cC
  go_wp2_with fail
  refine cC.mono ?_
  intro e w7 h7
  clear cC
  cases T with
  | bad n q =>
    obtain ⟨N, rfl, hN, hA, hb7⟩ := h7
    have HD : Hid (w.heap.size ≤ N ∧ AtIs w7 N n q ∧ But w.heap.size rb w w7) := ⟨by omega, hA, HX5.out.2.1.trans (hb7.less (by omega))⟩
    clear hN hA hb7
    unfold thrownA
    go_wp2_with fail
    exact ⟨rfl, N, rfl, HD.out⟩
  | ok l q c7 =>
    obtain ⟨lv, rfl, hl7, hr7, hb7⟩ := h7
    have e7 := (hb7.block w.heap.size (by omega) (by omega)).trans HX5.out.2.2.1
    obtain ⟨la, lc, hlv⟩ := hl7.form
    obtain ⟨LN, hLN⟩ : ∃ n, l.length = n := ⟨_, rfl⟩
    rw [hLN] at hlv
    subst hlv
    obtain ⟨⟨s0, s1, s2⟩, ⟨sf0, sf1, sf2⟩, u0, u1, u2⟩ := three_facts e7 (.int .i64 3) (.string ⟨#[]⟩) (.slice la LN lc)
    have HD : Hid (OutA w rb s (.ok (.mk 3 [] l) q c7) (.returned (.agg #[.int .i64 3, .string ⟨#[]⟩, .slice la LN lc])) _) := arg_done (tb := ⟨#[]⟩) hrb rfl (hl7.kept fun q hq _ => ⟨by omega, rfl⟩) hr7 (HX5.out.2.1.trans (hb7.less (by omega)))
    clear hl7 hr7 hb7 e7 hLN
    go_wp2_with fail
    exact bodyPost_ret (v := .agg #[.int .i64 3, .string ⟨#[]⟩, .slice la LN lc]) (by simp [results, Tryd.results52, go_sem, u0, u1, u2]) rfl HD.out
theorem arg_is (rb : Nat) (s : ByteArray) (m : Int) (hs : s.size ≤ 1000000) (hE : Ends s.data.toList) : ∀ (f d p c : Nat) (w : World), d + f = 7 → RdW w rb s p c → c ≤ 1000 → p + 2 ≤ s.size → EnvW w rb m →
    Calls Tryd.prog 52 #[.pointer (some ⟨rb, 0, none⟩), .int .i64 (d : Int)] w fun e w' => OutA w rb s (argW s.data.toList f p c) e w'
  | 0, d, p, c, w, hdf, hr, hc, hp, henv => arg_limit rb p c d s w hr hc (by omega) (Or.inl (by omega))
  | f + 1, d, p, c, w, hdf, hr, hc, hp, henv => by
    rw [argW]
    by_cases h60 : 60 < c + 1
    · rw [if_pos h60]
      exact arg_limit rb p c d s w hr hc (by omega) (Or.inr h60)
    · rw [if_neg h60]
      cases h123 : tookW [123] s.data.toList p with
      | true => rw [if_pos rfl]; exact arg_counted rb p c d s m w hr hs hE hp henv (by omega) (by omega) h123
      | false =>
        rw [if_neg (by simp)]
        cases h34 : tookW [34] s.data.toList p with
        | true => rw [if_pos rfl, wsize]; exact arg_quoted rb p c d s m w hr hs hE hp henv (by omega) (by omega) h123 h34
        | false =>
          rw [if_neg (by simp)]
          cases h40 : tookW [40] s.data.toList p with
          | true =>
            rw [if_pos rfl]
            refine arg_list rb p c d s m w hr hs hE hp henv (by omega) (by omega) h123 h34 h40 (argW s.data.toList f) (fun p c a p' c' hp h => ?_) (fun W p' c' h1 h2 h0 h3 => ?_)
            · have := arg_ok hE f p c a p' c' (by rw [wsize]; exact hp) h
              rw [wsize] at this
              exact this
            · exact arg_is rb s m hs hE f (d + 1) p' c' W (by omega) h1 (by omega) h2 (henv.next h3)
          | false => rw [if_neg (by simp)]; exact arg_word rb p c d s m w hr hs hE hp henv (by omega) (by omega) h123 h34 h40
end Go.Proofs.YtligkpcoajnjmaaDoor
