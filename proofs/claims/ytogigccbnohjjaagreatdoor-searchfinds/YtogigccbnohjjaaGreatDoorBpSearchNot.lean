/-
  What key of package search does at NOT, and more.
-/
import Derived.Test.YtogigccbnohjjaaGreatDoorBpSearchNone
import Derived.Test.YtogigccbnohjjaaGreatDoorBpSearchUnk
import Derived.Test.YtogigccbnohjjaaGreatDoorBpSearchUn
import Derived.Test.YtogigccbnohjjaaGreatDoorBpSearchOr
import Derived.Test.YtogigccbnohjjaaGreatDoorMSfList
import Derived.Test.YtogigccbnohjjaaGreatDoorBpSfUn
import Derived.Test.YtogigccbnohjjaaGreatDoorBpSfUnk
import Derived.Test.YtogigccbnohjjaaGreatDoorBpSfMap
namespace Go.Proofs.YtogigccbnohjjaaGreatDoor
open Go.RowKit Go.Proofs.Aid Go.Proofs.Sq Go.Proofs.Hd
set_option maxHeartbeats 4000000
set_option maxRecDepth 100000
theorem key_not (rb c B d : Nat) (x : Sr.Ar) (l : List Sr.Ar) (v : Value) (Ok : Nat → Prop) (w : World) (henv : EnvB w rb) (hr : RdS w rb v c) (hl : Ags w Ok B (x :: l) v) (hB : B ≤ 2000000) (hrb : rb < w.heap.size) (hO : ∀ k, Ok k → k ≠ rb ∧ k < w.heap.size) (hd : d ≤ 6) (hc : c + 1 ≤ 60) (hx : x.kind ≠ 3) (hw : great x.text = Sr.wNot) (g : List Sr.Ar → Nat → Sr.Rs Sr.Ky) (cK : ∀ W l' c' v', RdS W rb v' c' → Ags W Ok B l' v' → But w.heap.size rb w W → c' ≤ 60 → Calls Tryz.prog 38 #[.pointer (some ⟨rb, 0, none⟩), .int .i64 ((d : Int) + 1)] W fun e w' => Out W rb B Ok (g l' c') e w') :
  Calls Tryz.prog 38 #[.pointer (some ⟨rb, 0, none⟩), .int .i64 (d : Int)] w fun e w' => Out w rb B Ok ((g l (c + 1)).map Sr.notK) e w' := by
 have HENV : Hid (EnvB w rb) := henv
 have HKK : Hid (∀ W l' c' v', RdS W rb v' c' → Ags W Ok B l' v' → But w.heap.size rb w W → c' ≤ 60 → Calls Tryz.prog 38 #[.pointer (some ⟨rb, 0, none⟩), .int .i64 ((d : Int) + 1)] W fun e w' => Out W rb B Ok (g l' c') e w') := cK
 obtain ⟨R, hR⟩ : ∃ R, g l (c + 1) = R := ⟨_, rfl⟩
 rw [hR]
 have HR : Hid (g l (c + 1) = R) := hR
 clear henv cK hR
 obtain ⟨W1, W2, hW1, hW2, p1, f1, q1, q0, z2, hr2, hl2, hb2, hE2⟩ := key_begun rb c B (x :: l) v Ok w hr hl hrb hO
 have cW := word_ok rb (c + 1) B x l v Ok W2 hr2 hl2 (fun k hk => (hO k hk).1) hx
 obtain ⟨b, o, C, _, lv, rfl, hC, hC2, hOb, _, _, _, c1, _, _, _⟩ := hl2.head
 have hkb : (x.kind == 3) = false := by simpa using hx
 obtain ⟨K, hK⟩ : ∃ K, x.kind = K := ⟨_, rfl⟩
 rw [hK] at c1 hkb
 obtain ⟨L, hL⟩ : ∃ L, l.length = L := ⟨_, rfl⟩
 rw [hL] at q0 hC
 have HB : Hid (But w.heap.size rb w W2) := hb2
 have HE : Hid (W2.heap[w.heap.size]? = some (.cells #[.int .i64 0, .string ⟨#[]⟩, .string ⟨#[]⟩, .int .i64 0, .slice none 0 0, .slice none 0 0] 32 (0, 0))) := hE2
 have HO : Hid (∀ k, Ok k → k ≠ rb ∧ k < w.heap.size) := hO
 have HZ : Hid (W2.heap.size = w.heap.size + 1) := z2
 have HWD : Hid (great x.text = Sr.wNot) := hw
 have d1 : decide ((6 : Int) < (d : Int)) = false := decide_eq_false (by omega)
 have d2 : decide ((60 : Int) < (c : Int) + 1) = false := decide_eq_false (by omega)
 clear hr hl hO hr2 hl2 hb2 hE2 hL z2 hx hK hw
 go_enter Tryz.func38, Tryz.ntmps38
 go_wp2_with fail
 refine cW.mono ?_
 rintro e w3 ⟨tb, v3, htb, htz, rfl, hr3, hl3, hb3⟩
 have cG := great_is tb w3 (by omega)
 rw [htb, HWD.out, show (⟨(Sr.wNot : List UInt8).toArray⟩ : ByteArray) = ⟨#[78, 79, 84]⟩ from rfl] at cG
 have hz := HZ.out
 have hs3 := hb3.size
 have HX : Hid (∀ W, Below w3.heap.size w3 W → RdS W rb v3 (c + 1) ∧ Ags W Ok B l v3 ∧ But w.heap.size rb w W ∧ W.heap[w.heap.size]? = some (.cells #[.int .i64 0, .string ⟨#[]⟩, .string ⟨#[]⟩, .int .i64 0, .slice none 0 0, .slice none 0 0] 32 (0, 0)) ∧ w.heap.size + 1 ≤ W.heap.size) := fun W hW =>
  ⟨hr3.kept (hW.block rb (by omega)), hl3.kept fun k hk hlt => ⟨hk, hW.block k hlt⟩, (HB.out.trans (hb3.less (by omega))).trans (to_but (hW.mono (by omega))), (hW.block w.heap.size (by omega)).trans ((hb3.block w.heap.size (by omega) (by omega)).trans HE.out), by have := hW.size; omega⟩
 clear cW hr3 hl3 hb3 htb
 go_wp2_with fail
 refine cG.mono ?_
 rintro e w4 ⟨rfl, hb4⟩
 obtain ⟨hr4, hl4, hbt, e4, hs4⟩ := HX.out w4 hb4
 clear cG HX
 have cQ := HKK.out w4 l (c + 1) v3 hr4 hl4 hbt hc
 rw [HR.out] at cQ
 have HX5 : Hid (But w.heap.size rb w w4 ∧ w4.heap[w.heap.size]? = some (.cells #[.int .i64 0, .string ⟨#[]⟩, .string ⟨#[]⟩, .int .i64 0, .slice none 0 0, .slice none 0 0] 32 (0, 0))) := ⟨hbt, e4⟩
 clear hb4 hr4 hl4 hbt e4
 go_wp2_with fail
 refine cQ.mono ?_
 intro e w6 h6
 clear cQ
 cases R with
 | bad n =>
  obtain ⟨rfl, hb6⟩ := h6
  have HB6 : Hid (But w.heap.size rb w w6) := HX5.out.1.trans (hb6.less (by omega))
  clear hb6
  unfold thrown
  go_wp2_with fail
  exact ⟨rfl, rfl, HB6.out⟩
 | ok k l5 c5 =>
  obtain ⟨ys, v6, rfl, hk6, hr6, hl6, hb6⟩ := h6
  have hs6 := hb6.size
  have cN := not_is k ys (fun q => w4.heap.size ≤ q) w6 hk6
  obtain ⟨x0, x3, x1, x2, xa, xk, xc, ya, yk, yc, rfl⟩ := kx_cells hk6
  have hta : ([.int .i64 x0, .string x1, .string x2, .int .i64 x3, .slice xa xk xc, .slice ya yk yc] : List Value).toArray = #[.int .i64 x0, .string x1, .string x2, .int .i64 x3, .slice xa xk xc, .slice ya yk yc] := rfl
  rw [hta] at cN ⊢
  have HX6 : Hid (RdS w6 rb v6 c5 ∧ Ags w6 Ok B l5 v6 ∧ But w.heap.size rb w w6 ∧ w6.heap[w.heap.size]? = some (.cells #[.int .i64 0, .string ⟨#[]⟩, .string ⟨#[]⟩, .int .i64 0, .slice none 0 0, .slice none 0 0] 32 (0, 0))) := ⟨hr6, hl6, HX5.out.1.trans (hb6.less (by omega)), (hb6.block w.heap.size (by omega) (by omega)).trans HX5.out.2⟩
  clear hk6 hr6 hl6 hb6 hta HX5
  go_wp2_with fail
  refine cN.mono ?_
  rintro e w7 ⟨zs, rfl, hk7, hb7⟩
  clear cN
  obtain ⟨x0, x3, x1, x2, xa, xk, xc, ya, yk, yc, rfl⟩ := kx_cells hk7
  have hta : ([.int .i64 x0, .string x1, .string x2, .int .i64 x3, .slice xa xk xc, .slice ya yk yc] : List Value).toArray = #[.int .i64 x0, .string x1, .string x2, .int .i64 x3, .slice xa xk xc, .slice ya yk yc] := rfl
  rw [hta]
  obtain ⟨hr6, hl6, hb06, e06⟩ := HX6.out
  have e6 := (hb7.block w.heap.size (by omega)).trans e06
  obtain ⟨⟨s0, s1, s2, s3, s4, s5⟩, ⟨sf0, sf1, sf2, sf3, sf4, sf5⟩, u0, u1, u2, u3, u4, u5⟩ := six_facts e6 (.int .i64 x0) (.string x1) (.string x2) (.int .i64 x3) (.slice xa xk xc) (.slice ya yk yc)
  have HD : Hid (Out w rb B Ok (.ok (Sr.notK k) l5 c5) (.returned (.agg #[.int .i64 x0, .string x1, .string x2, .int .i64 x3, .slice xa xk xc, .slice ya yk yc])) _) := key_done hrb HO.out (hk7.kept fun q hq _ => ⟨hq.elim (fun h => by omega) (fun h => by omega), rfl⟩) (hr6.kept (hb7.block rb (by omega))) (hl6.kept fun k hk hlt => ⟨hk, hb7.block k hlt⟩) (hb06.trans (to_but (hb7.mono (by omega))))
  clear HX6 hr6 hl6 hb06 e06 e6 hb7 hk7 hta
  go_wp2_with fail
  exact bodyPost_ret (v := .agg #[.int .i64 x0, .string x1, .string x2, .int .i64 x3, .slice xa xk xc, .slice ya yk yc]) (by simp [results, Tryz.results38, go_sem, u0, u1, u2, u3, u4, u5]) rfl HD.out
end Go.Proofs.YtogigccbnohjjaaGreatDoor
namespace Go.Proofs.YtogigccbnohjjaaGreatDoor
open Go.RowKit Go.Proofs.Aid Go.Proofs.Sq Go.Proofs.Hd
set_option maxHeartbeats 2000000
set_option maxRecDepth 100000
theorem EnvB.next {w W : World} {rb : Nat} (h : EnvB w rb) (hb : But w.heap.size rb w W) : EnvB W rb := fun W' h' => h W' (hb.trans (h'.less hb.size))
theorem in_list {y : Sr.Tx} {l : List Sr.Tx} (h : l.contains y = true) : y ∈ l := by simpa using h
theorem key_word (g : List Sr.Ar → Nat → Sr.Rs Sr.Ky) (hG : Sr.Cnt g) (rb c B d : Nat) (x : Sr.Ar) (l : List Sr.Ar) (v : Value) (Ok : Nat → Prop) (w : World) (henv : EnvB w rb) (hr : RdS w rb v c) (hl : Ags w Ok B (x :: l) v) (hB : B ≤ 2000000) (hrb : rb < w.heap.size) (hO : ∀ k, Ok k → k ≠ rb ∧ k < w.heap.size) (hd : d ≤ 6) (hc : c + 1 ≤ 60) (hx : x.kind ≠ 3)
  (cK : ∀ W l' c' v', RdS W rb v' c' → Ags W Ok B l' v' → But w.heap.size rb w W → c' ≤ 60 → Calls Tryz.prog 38 #[.pointer (some ⟨rb, 0, none⟩), .int .i64 ((d : Int) + 1)] W fun e w' => Out W rb B Ok (g l' c') e w') :
  Calls Tryz.prog 38 #[.pointer (some ⟨rb, 0, none⟩), .int .i64 (d : Int)] w fun e w' => Out w rb B Ok (Sr.wordK g x.text l (c + 1)) e w' := by
 rw [Sr.wordK]
 by_cases p0 : Hd.great x.text = Sr.wAll
 ·rw [if_pos p0]; exact key_all rb c B d x l v Ok w hr hl hB hrb hO hd hc hx p0
 rw [if_neg p0]
 by_cases p1 : Sr.wSys.contains (Hd.great x.text) = true
 ·rw [if_pos p1]; exact key_sys rb c B d x l v Ok w henv hr hl hB hrb hO hd hc hx _ (in_list p1) rfl
 rw [if_neg p1]
 by_cases p2 : Sr.wUn.contains (Hd.great x.text) = true
 ·rw [if_pos p2]
  obtain ⟨bs, hbs, e⟩ := List.mem_map.1 (in_list p2)
  rw [← e]
  exact key_un rb c B d x l v Ok w henv hr hl hB hrb hO hd hc hx bs hbs e.symm
 rw [if_neg p2]
 by_cases p3 : Hd.great x.text = Sr.wKeyword
 ·rw [if_pos p3]; exact key_keyword rb c B d x l v Ok w henv hr hl hB hrb hO hd hc hx p3
 rw [if_neg p3]
 by_cases p4 : Hd.great x.text = 85 :: 78 :: Sr.wKeyword
 ·rw [if_pos p4]; exact key_unkeyword rb c B d x l v Ok w henv hr hl hB hrb hO hd hc hx p4
 rw [if_neg p4]
 by_cases p5 : Sr.wFields.contains (Hd.great x.text) = true
 ·rw [if_pos p5]; exact key_fields rb c B d x l v Ok w hr hl hB hrb hO hd hc hx _ (in_list p5) rfl
 rw [if_neg p5]
 by_cases p6 : Hd.great x.text = Sr.wHeader
 ·rw [if_pos p6]; exact key_header rb c B d x l v Ok w henv hr hl hB hrb hO hd hc hx p6
 rw [if_neg p6]
 by_cases p7 : Hd.great x.text = Sr.wBody
 ·rw [if_pos p7]; exact key_body rb c B d x l v Ok w hr hl hB hrb hO hd hc hx p7
 rw [if_neg p7]
 by_cases p8 : Hd.great x.text = Sr.wText
 ·rw [if_pos p8]; exact key_text rb c B d x l v Ok w hr hl hB hrb hO hd hc hx p8
 rw [if_neg p8]
 by_cases p9 : Sr.wMeas.contains (Hd.great x.text) = true
 ·rw [if_pos p9]; exact key_meas rb c B d x l v Ok w henv hr hl hB hrb hO hd hc hx _ (in_list p9) rfl
 rw [if_neg p9]
 by_cases p10 : Hd.great x.text = Sr.wUid
 ·rw [if_pos p10]; exact key_uid rb c B d x l v Ok w henv hr hl hB hrb hO hd hc hx p10
 rw [if_neg p10]
 by_cases p11 : Hd.great x.text = Sr.wNot
 ·rw [if_pos p11]; exact key_not rb c B d x l v Ok w henv hr hl hB hrb hO hd hc hx p11 g cK
 rw [if_neg p11]
 by_cases p12 : Hd.great x.text = Sr.wOr
 ·rw [if_pos p12]; exact key_or g rb c B d x l v Ok w henv hr hl hB hrb hG hO hd hc hx p12 cK
 rw [if_neg p12]
 refine key_nowd rb c B d x l v Ok w henv hr hl hB hrb hO hd hc hx fun y hy e => ?_
 have n1 : ∀ z ∈ Sr.wSys, Hd.great x.text ≠ z := fun z hz e => p1 (by rw [e]; simpa using hz)
 have n2 : ∀ z ∈ Sr.wUn, Hd.great x.text ≠ z := fun z hz e => p2 (by rw [e]; simpa using hz)
 have n5 : ∀ z ∈ Sr.wFields, Hd.great x.text ≠ z := fun z hz e => p5 (by rw [e]; simpa using hz)
 have n9 : ∀ z ∈ Sr.wMeas, Hd.great x.text ≠ z := fun z hz e => p9 (by rw [e]; simpa using hz)
 have hall : wAllWords = [Sr.wAll] ++ Sr.wSys ++ Sr.wUn ++ [Sr.wKeyword, 85 :: 78 :: Sr.wKeyword] ++ Sr.wFields ++ [Sr.wHeader, Sr.wBody, Sr.wText] ++ Sr.wMeas ++ [Sr.wUid, Sr.wNot, Sr.wOr] := by decide
 rw [hall] at hy
 simp only [List.mem_append] at hy
 rcases hy with ((((((hy | hy) | hy) | hy) | hy) | hy) | hy) | hy
 ·rw [List.mem_singleton.1 hy] at e; exact p0 e
 ·exact n1 y hy e
 ·exact n2 y hy e
 ·rcases List.mem_cons.1 hy with rfl | hy
  ·exact p3 e
  ·rw [List.mem_singleton.1 hy] at e; exact p4 e
 ·exact n5 y hy e
 ·rcases List.mem_cons.1 hy with rfl | hy
  ·exact p6 e
  ·rcases List.mem_cons.1 hy with rfl | hy
   ·exact p7 e
   ·rw [List.mem_singleton.1 hy] at e; exact p8 e
 ·exact n9 y hy e
 ·rcases List.mem_cons.1 hy with rfl | hy
  ·exact p10 e
  ·rcases List.mem_cons.1 hy with rfl | hy
   ·exact p11 e
   ·rw [List.mem_singleton.1 hy] at e; exact p12 e
theorem key_is (rb B : Nat) (Ok : Nat → Prop) (hB : B ≤ 2000000) : ∀ (f d c : Nat) (l : List Sr.Ar) (v : Value) (w : World), d + f = 7 → EnvB w rb → RdS w rb v c → Ags w Ok B l v → rb < w.heap.size → (∀ k, Ok k → k ≠ rb ∧ k < w.heap.size) → c ≤ 1000 →
  Calls Tryz.prog 38 #[.pointer (some ⟨rb, 0, none⟩), .int .i64 (d : Int)] w fun e w' => Out w rb B Ok (Sr.keyF f l c) e w'
 | 0, d, c, l, v, w, hdf, henv, hr, hl, hrb, hO, hc => key_limit rb c B d l v Ok w hr hl hrb hO hc (by omega) (Or.inl (by omega))
 | f + 1, d, c, l, v, w, hdf, henv, hr, hl, hrb, hO, hc => by
  by_cases h60 : 60 < c + 1
  ·rw [Sr.keyF_lim h60]
   exact key_limit rb c B d l v Ok w hr hl hrb hO hc (by omega) (Or.inr h60)
  ·have deep : ∀ W l' c' v', RdS W rb v' c' → Ags W Ok B l' v' → But w.heap.size rb w W → c' ≤ 60 → Calls Tryz.prog 38 #[.pointer (some ⟨rb, 0, none⟩), .int .i64 ((d : Int) + 1)] W fun e w' => Out W rb B Ok (Sr.keyF f l' c') e w' := fun W l' c' v' h1 h2 h3 h4 => by
    have := key_is rb B Ok hB f (d + 1) c' l' v' W (by omega) (henv.next h3) h1 h2 (by have := h3.size; omega) (fun k hk => ⟨(hO k hk).1, by have := (hO k hk).2; have := h3.size; omega⟩) (by omega)
    rw [show ((d + 1 : Nat) : Int) = (d : Int) + 1 by omega] at this
    exact this
   cases l with
   | nil => rw [Sr.keyF_nil h60]; exact key_none rb c B d v Ok w hr hl hrb hO (by omega) (by omega)
   | cons a r =>
    by_cases h3 : a.kind = 3
    ·rw [Sr.keyF_list h60 h3]
     refine key_list rb c B d a r v Ok w _ hr hl hrb hO (by omega) (by omega) h3 fun W lv h1 h2 h4 h5 => ?_
     have := keys_is rb (c + 1) B (d + 1) a.list lv Ok W (Sr.keyF f) h1 h2 (by omega) (fun k hk => ⟨(hO k hk).1, by have := (hO k hk).2; omega⟩) (by omega) (Sr.keyF_c f) (fun W' l' c' v' k1 k2 k3 k4 => by
      have := deep W' l' c' v' k1 k2 (h4.trans (k3.less h5)) k4
      rw [show ((d + 1 : Nat) : Int) = (d : Int) + 1 by omega]
      exact this)
     rw [show ((d + 1 : Nat) : Int) = (d : Int) + 1 by omega] at this
     exact this
    ·rw [Sr.keyF_word h60 h3]
     exact key_word (Sr.keyF f) (Sr.keyF_c f) rb c B d a r v Ok w henv hr hl hB hrb hO (by omega) (by omega) h3 deep
end Go.Proofs.YtogigccbnohjjaaGreatDoor
namespace Go.Proofs.YtogigccbnohjjaaGreatDoor
open Go.RowKit Go.Proofs.Aid Go.Proofs.Sq Go.Proofs.Hd
set_option maxHeartbeats 2000000
set_option maxRecDepth 100000
theorem kkey_word (g : List Sr.Ar → Nat → Sr.Rs Sr.Ky) (hG : Sr.Cnt g) (kb B d c : Nat) (x : Sr.Ar) (l : List Sr.Ar) (v : Value) (Ok : Nat → Prop) (w : World) (henv : EnvK w kb) (hr : KyS w kb (c : Int) 0) (hl : Ags w Ok B (x :: l) v) (hB : B ≤ 900000) (hO : ∀ k, Ok k → k ≠ kb ∧ k < w.heap.size) (hd : d ≤ 6) (hc : c + 1 ≤ 60) (hx : x.kind ≠ 3)
  (cK : ∀ W l' v' n E, KyS W kb n E → Ags W Ok B l' v' → But w.heap.size kb w W → (E = 0 → 0 ≤ n ∧ n ≤ 60) → Calls Tryz.prog 37 #[.pointer (some ⟨kb, 0, none⟩), v', .int .i64 ((d : Int) + 1)] W fun e w' => OutK W kb B Ok (atK g l' n E) e w') :
  Calls Tryz.prog 37 #[.pointer (some ⟨kb, 0, none⟩), v, .int .i64 (d : Int)] w fun e w' => OutK w kb B Ok (Sr.wordK g x.text l (c + 1)) e w' := by
 rw [Sr.wordK]
 by_cases p0 : Hd.great x.text = Sr.wAll
 ·rw [if_pos p0]; exact kkey_all kb B d c x l v Ok w henv hr hl hB hO hd hc hx p0
 rw [if_neg p0]
 by_cases p1 : Sr.wSys.contains (Hd.great x.text) = true
 ·rw [if_pos p1]; exact kkey_sys kb B d c x l v Ok w henv hr hl hB hO hd hc hx _ (in_list p1) rfl
 rw [if_neg p1]
 by_cases p2 : Sr.wUn.contains (Hd.great x.text) = true
 ·rw [if_pos p2]
  obtain ⟨bs, hbs, e⟩ := List.mem_map.1 (in_list p2)
  rw [← e]
  exact kkey_un kb B d c x l v Ok w henv hr hl hB hO hd hc hx bs hbs e.symm
 rw [if_neg p2]
 by_cases p3 : Hd.great x.text = Sr.wKeyword
 ·rw [if_pos p3]; exact kkey_keyword kb B d c x l v Ok w henv hr hl hB hO hd hc hx p3
 rw [if_neg p3]
 by_cases p4 : Hd.great x.text = 85 :: 78 :: Sr.wKeyword
 ·rw [if_pos p4]; exact kkey_unkeyword kb B d c x l v Ok w henv hr hl hB hO hd hc hx p4
 rw [if_neg p4]
 by_cases p5 : Sr.wFields.contains (Hd.great x.text) = true
 ·rw [if_pos p5]; exact kkey_fields kb B d c x l v Ok w henv hr hl hB hO hd hc hx _ (in_list p5) rfl
 rw [if_neg p5]
 by_cases p6 : Hd.great x.text = Sr.wHeader
 ·rw [if_pos p6]; exact kkey_header kb B d c x l v Ok w henv hr hl hB hO hd hc hx p6
 rw [if_neg p6]
 by_cases p7 : Hd.great x.text = Sr.wBody
 ·rw [if_pos p7]; exact kkey_body kb B d c x l v Ok w henv hr hl hB hO hd hc hx p7
 rw [if_neg p7]
 by_cases p8 : Hd.great x.text = Sr.wText
 ·rw [if_pos p8]; exact kkey_text kb B d c x l v Ok w henv hr hl hB hO hd hc hx p8
 rw [if_neg p8]
 by_cases p9 : Sr.wMeas.contains (Hd.great x.text) = true
 ·rw [if_pos p9]; exact kkey_meas kb B d c x l v Ok w henv hr hl hB hO hd hc hx _ (in_list p9) rfl
 rw [if_neg p9]
 by_cases p10 : Hd.great x.text = Sr.wUid
 ·rw [if_pos p10]; exact kkey_uid kb B d c x l v Ok w henv hr hl hB hO hd hc hx p10
 rw [if_neg p10]
 by_cases p11 : Hd.great x.text = Sr.wNot
 ·rw [if_pos p11]; exact kkey_not kb B d c x l v Ok w henv hr hl hB hO hd hc hx p11 g cK
 rw [if_neg p11]
 by_cases p12 : Hd.great x.text = Sr.wOr
 ·rw [if_pos p12]; exact kkey_or kb B d c x l v Ok w henv hr hl hB hO hd hc hx p12 g cK hG
 rw [if_neg p12]
 refine kkey_nowd kb B d c x l v Ok w henv hr hl hB hO hd hc hx fun y hy e => ?_
 have n1 : ∀ z ∈ Sr.wSys, Hd.great x.text ≠ z := fun z hz e => p1 (by rw [e]; simpa using hz)
 have n2 : ∀ z ∈ Sr.wUn, Hd.great x.text ≠ z := fun z hz e => p2 (by rw [e]; simpa using hz)
 have n5 : ∀ z ∈ Sr.wFields, Hd.great x.text ≠ z := fun z hz e => p5 (by rw [e]; simpa using hz)
 have n9 : ∀ z ∈ Sr.wMeas, Hd.great x.text ≠ z := fun z hz e => p9 (by rw [e]; simpa using hz)
 have hall : wAllWords = [Sr.wAll] ++ Sr.wSys ++ Sr.wUn ++ [Sr.wKeyword, 85 :: 78 :: Sr.wKeyword] ++ Sr.wFields ++ [Sr.wHeader, Sr.wBody, Sr.wText] ++ Sr.wMeas ++ [Sr.wUid, Sr.wNot, Sr.wOr] := by decide
 rw [hall] at hy
 simp only [List.mem_append] at hy
 rcases hy with ((((((hy | hy) | hy) | hy) | hy) | hy) | hy) | hy
 ·rw [List.mem_singleton.1 hy] at e; exact p0 e
 ·exact n1 y hy e
 ·exact n2 y hy e
 ·rcases List.mem_cons.1 hy with rfl | hy
  ·exact p3 e
  ·rw [List.mem_singleton.1 hy] at e; exact p4 e
 ·exact n5 y hy e
 ·rcases List.mem_cons.1 hy with rfl | hy
  ·exact p6 e
  ·rcases List.mem_cons.1 hy with rfl | hy
   ·exact p7 e
   ·rw [List.mem_singleton.1 hy] at e; exact p8 e
 ·exact n9 y hy e
 ·rcases List.mem_cons.1 hy with rfl | hy
  ·exact p10 e
  ·rcases List.mem_cons.1 hy with rfl | hy
   ·exact p11 e
   ·rw [List.mem_singleton.1 hy] at e; exact p12 e
theorem rel_wrap (n : Int) : ∃ N, wrap64 (n + 1) = N := ⟨_, rfl⟩
theorem kkey_is (kb B : Nat) (Ok : Nat → Prop) (hB : B ≤ 900000) : ∀ (f d : Nat) (n E : Int) (l : List Sr.Ar) (v : Value) (w : World), d + f = 7 → EnvK w kb → KyS w kb n E → Ags w Ok B l v → (∀ k, Ok k → k ≠ kb ∧ k < w.heap.size) → (E = 0 → 0 ≤ n ∧ n ≤ 60) →
  Calls Tryz.prog 37 #[.pointer (some ⟨kb, 0, none⟩), v, .int .i64 (d : Int)] w fun e w' => OutK w kb B Ok (atK (Sr.keyF f) l n E) e w' := by
 intro f
 induction f with
 | zero =>
  intro d n E l v w hdf henv hr hl hO hn
  obtain ⟨N, hN⟩ := rel_wrap n
  refine kkey_stop kb B d n E N l v Ok w _ hr hl hO hN (Or.inr (Or.inr (by omega))) fun k l' n' E' ht => ?_
  rcases ht with ⟨rfl, rfl⟩ | ⟨h1, rfl⟩
  ·unfold atK; rw [if_pos rfl]; exact ⟨rfl, by decide⟩
  ·rw [atK_bad _ _ _ h1]; exact ⟨rfl, h1⟩
 | succ f ih =>
  intro d n E l v w hdf henv hr hl hO hn
  by_cases hE : E = 0
  ·subst hE
   obtain ⟨c, rfl⟩ : ∃ c : Nat, n = (c : Int) := ⟨n.toNat, (Int.toNat_of_nonneg (hn rfl).1).symm⟩
   have hc := (hn rfl).2
   rw [atK_ok]
   by_cases h60 : 60 < c + 1
   ·rw [Sr.keyF_lim h60]
    have hN : wrap64 ((c : Int) + 1) = (c : Int) + 1 := by unfold wrap64; omega
    refine kkey_stop kb B d (c : Int) 0 ((c : Int) + 1) l v Ok w _ hr hl hO hN (Or.inr (Or.inl (by omega))) fun k l' n' E' ht => ?_
    rcases ht with ⟨_, rfl⟩ | ⟨h1, _⟩
    ·exact ⟨rfl, by decide⟩
    ·exact absurd rfl h1
   ·have deep : ∀ W l' v' n E, KyS W kb n E → Ags W Ok B l' v' → But w.heap.size kb w W → (E = 0 → 0 ≤ n ∧ n ≤ 60) → Calls Tryz.prog 37 #[.pointer (some ⟨kb, 0, none⟩), v', .int .i64 ((d : Int) + 1)] W fun e w' => OutK W kb B Ok (atK (Sr.keyF f) l' n E) e w' := fun W l' v' n' E' h1 h2 h3 h4 => by
     have := ih (d + 1) n' E' l' v' W (by omega) (henv.next h3) h1 h2 (fun k hk => ⟨(hO k hk).1, by have := (hO k hk).2; have := h3.size; omega⟩) h4
     rw [show ((d + 1 : Nat) : Int) = (d : Int) + 1 by omega] at this
     exact this
    cases l with
    | nil => rw [Sr.keyF_nil h60]; exact kkey_none kb B d c v Ok w hr hl hO (by omega) (by omega)
    | cons a r =>
     by_cases h3 : a.kind = 3
     ·rw [Sr.keyF_list h60 h3]
      refine kkey_list kb B d c a r v Ok w _ hr hl hO (by omega) (by omega) h3 fun W lv h1 h2 h4 h5 => ?_
      exact kall kb B (c + 1) ((d : Int) + 1) a.list lv Ok W (Sr.keyF f) h1 h2 (fun k hk => ⟨(hO k hk).1, by have := (hO k hk).2; omega⟩) (by omega) (Sr.keyF_c f) (fun W' l' v' n' E' k1 k2 k3 k4 => deep W' l' v' n' E' k1 k2 (h4.trans (k3.less h5)) k4)
     ·rw [Sr.keyF_word h60 h3]
      exact kkey_word (Sr.keyF f) (Sr.keyF_c f) kb B d c a r v Ok w henv hr hl hB hO (by omega) (by omega) h3 deep
  ·obtain ⟨N, hN⟩ := rel_wrap n
   refine kkey_stop kb B d n E N l v Ok w _ hr hl hO hN (Or.inl hE) fun k l' n' E' ht => ?_
   rcases ht with ⟨h1, _⟩ | ⟨h1, rfl⟩
   ·exact absurd h1 hE
   ·rw [atK_bad _ _ _ hE]; exact ⟨rfl, hE⟩
end Go.Proofs.YtogigccbnohjjaaGreatDoor
namespace Go.Proofs.YtogigccbnohjjaaGreatDoor
open Go.RowKit Go.Proofs.Aid Go.Proofs.Sq Go.Proofs.Hd
set_option maxHeartbeats 4000000
set_option maxRecDepth 100000
def OutPK (w : World) : Sr.Rs Sr.Ky → Ending → World → Prop
 | .bad n, e, w' => e = .returned (.tuple #[.agg #[.int .i64 0, .string ⟨#[]⟩, .string ⟨#[]⟩, .int .i64 0, .slice none 0 0, .slice none 0 0], .int .i64 n]) ∧ n ≠ 0 ∧ Below w.heap.size w w'
 | .ok k _ _, e, w' => ∃ ys, e = .returned (.tuple #[.agg ys.toArray, .int .i64 0]) ∧ Kx w' (fun q => w.heap.size ≤ q) k ys ∧ Below w.heap.size w w'
theorem rparseK_is (B : Nat) (l : List Sr.Ar) (v : Value) (Ok : Nat → Prop) (w : World) (hB : B ≤ 900000) (hl : Ags w Ok B l v) (hO : ∀ k, Ok k → k < w.heap.size)
  (hg : ∀ W, Below w.heap.size w W → NumAt W ∧ ∃ m, W.cell? ⟨1, 0, none⟩ = some (.int .i64 m)) :
  Calls Tryz.prog 6 #[v] w fun e w' => OutPK w (Sr.parseK l) e w' := by
 obtain ⟨T, hT⟩ : ∃ T, Sr.parseK l = T := ⟨_, rfl⟩
 rw [hT]
 have b1 : Below w.heap.size w (w.alloc (.cells #[.int .i64 0, .string ⟨#[]⟩, .string ⟨#[]⟩, .int .i64 0, .slice none 0 0, .slice none 0 0] 32)) := (Below.refl _ _).alloc (Nat.le_refl _) _
 have e1 := heap_alloc_new w (.cells #[.int .i64 0, .string ⟨#[]⟩, .string ⟨#[]⟩, .int .i64 0, .slice none 0 0, .slice none 0 0] 32)
 obtain ⟨W1, hW1⟩ : ∃ W, w.alloc (.cells #[.int .i64 0, .string ⟨#[]⟩, .string ⟨#[]⟩, .int .i64 0, .slice none 0 0, .slice none 0 0] 32) = W := ⟨_, rfl⟩
 have z1 : W1.heap.size = w.heap.size + 1 := by rw [← hW1]; simp
 rw [hW1] at b1 e1
 have b2 : Below W1.heap.size W1 (W1.alloc (.cells #[.int .i64 0, .int .i64 0] 56)) := (Below.refl _ _).alloc (Nat.le_refl _) _
 have e2 := heap_alloc_new W1 (.cells #[.int .i64 0, .int .i64 0] 56)
 obtain ⟨W2, hW2⟩ : ∃ W, W1.alloc (.cells #[.int .i64 0, .int .i64 0] 56) = W := ⟨_, rfl⟩
 have z2 : W2.heap.size = w.heap.size + 2 := by rw [← hW2]; simp [z1]
 rw [hW2] at b2 e2
 rw [z1] at e2
 have e12 := (b2.block w.heap.size (by omega)).trans e1
 have b02 := b1.trans (b2.mono (by omega))
 have henv : EnvK W2 (w.heap.size + 1) := fun W hb => hg W (b02.trans (hb.below (B := w.heap.size) (by omega) (by omega)))
 have hr2 : KyS W2 (w.heap.size + 1) ((0 : Nat) : Int) 0 := e2
 have hl2 : Ags W2 Ok B l v := hl.kept fun k hk hlt => ⟨hk, b02.block k hlt⟩
 have hO2 : ∀ k, Ok k → k ≠ w.heap.size + 1 ∧ k < W2.heap.size := fun k hk => ⟨by have := hO k hk; omega, by have := hO k hk; omega⟩
 have cA := kall (w.heap.size + 1) B 0 0 l v Ok W2 (Sr.keyF 7) hr2 hl2 hO2 (by omega) (Sr.keyF_c 7) (fun W l' v' n E h1 h2 h3 h4 => kkey_is (w.heap.size + 1) B Ok hB 7 0 n E l' v' W (by omega) (henv.next h3) h1 h2 (fun k hk => ⟨(hO2 k hk).1, by have := (hO2 k hk).2; have := h3.size; omega⟩) h4)
 rw [show Sr.keysF (Sr.keyF 7) l 0 = T from hT] at cA
 have HX2 : Hid (Below w.heap.size w W2 ∧ W2.heap[w.heap.size]? = some (.cells #[.int .i64 0, .string ⟨#[]⟩, .string ⟨#[]⟩, .int .i64 0, .slice none 0 0, .slice none 0 0] 32 (0, 0)) ∧ W2.heap.size = w.heap.size + 2) := ⟨b02, e12, z2⟩
 obtain ⟨KB, hKB⟩ : ∃ n, w.heap.size + 1 = n := ⟨_, rfl⟩
 rw [hKB] at cA
 have hz1 : W1.heap.size = KB := by omega
 have HKB : Hid (w.heap.size + 1 = KB) := hKB
 have hKBne : KB ≠ w.heap.size := by omega
 clear b1 e1 b2 e2 e12 b02 henv hr2 hl2 hO2 hl hO hg hT z1 z2 hKB
 go_enter Tryz.func6, Tryz.ntmps6
 go_wp2_with fail
 refine cA.mono ?_
 rintro e w3 ⟨ys, k3, l3, n3, E3, rfl, hk3, hr3, hb3, hrel3⟩
 clear cA
 obtain ⟨x0, x3, x1, x2, xa, xk, xc, ya, yk, yc, rfl⟩ := kx_cells hk3
 have hta : ([.int .i64 x0, .string x1, .string x2, .int .i64 x3, .slice xa xk xc, .slice ya yk yc] : List Value).toArray = #[.int .i64 x0, .string x1, .string x2, .int .i64 x3, .slice xa xk xc, .slice ya yk yc] := rfl
 rw [hta]
 obtain ⟨b02, e12, z2⟩ := HX2.out
 have hkb := HKB.out
 have hs3 := hb3.size
 have e3 := (hb3.block w.heap.size (by omega) (by omega)).trans e12
 have b03 : Below w.heap.size w w3 := b02.trans (hb3.below (by omega) (by omega))
 have e4 := heap_alloc_new w3 (.cells #[.int .i64 0, .string ⟨#[]⟩, .string ⟨#[]⟩, .int .i64 0, .slice none 0 0, .slice none 0 0] 32)
 have b4 : Below w3.heap.size w3 (w3.alloc (.cells #[.int .i64 0, .string ⟨#[]⟩, .string ⟨#[]⟩, .int .i64 0, .slice none 0 0, .slice none 0 0] 32)) := (Below.refl _ _).alloc (Nat.le_refl _) _
 obtain ⟨W4, hW4⟩ : ∃ W, w3.alloc (.cells #[.int .i64 0, .string ⟨#[]⟩, .string ⟨#[]⟩, .int .i64 0, .slice none 0 0, .slice none 0 0] 32) = W := ⟨_, rfl⟩
 rw [hW4] at e4 b4
 obtain ⟨XB, hXB⟩ : ∃ F, w3.heap.size = F := ⟨_, rfl⟩
 rw [hXB] at e4
 obtain ⟨⟨a0, a1, a2, a3, a4, a5⟩, ⟨af0, af1, af2, af3, af4, af5⟩, _⟩ := six_facts e4 (.int .i64 x0) (.string x1) (.string x2) (.int .i64 x3) (.slice xa xk xc) (.slice ya yk yc)
 have e5 := six_set e4 (.int .i64 x0) (.string x1) (.string x2) (.int .i64 x3) (.slice xa xk xc) (.slice ya yk yc)
 obtain ⟨W5, hW5⟩ : ∃ W, ((((((W4.setCell ⟨XB, 0, none⟩ (.int .i64 x0)).setCell ⟨XB, 1, none⟩ (.string x1)).setCell ⟨XB, 2, none⟩ (.string x2)).setCell ⟨XB, 3, none⟩ (.int .i64 x3)).setCell ⟨XB, 4, none⟩ (.slice xa xk xc)).setCell ⟨XB, 5, none⟩ (.slice ya yk yc)) = W := ⟨_, rfl⟩
 have hfar5 : ∀ q, q < XB → W5.heap[q]? = w3.heap[q]? := fun q hq => by rw [← hW5, six_other _ (by omega)]; exact b4.block q (by omega)
 have hb5 : Below XB w3 W5 := by rw [← hW5]; exact (six_but (rb := XB) (to_but (b4.mono (by omega))) (Nat.le_refl _) _ _ _ _ _ _).below (Nat.le_refl _) (Nat.le_refl _)
 rw [hW5] at e5
 have y0 := rd_cell (j := 0) e5 rfl
 have y1 := rd_cell (j := 1) e5 rfl
 have y2 := rd_cell (j := 2) e5 rfl
 have y3 := rd_cell (j := 3) e5 rfl
 have y4 := rd_cell (j := 4) e5 rfl
 have y5 := rd_cell (j := 5) e5 rfl
 have hr5 : KyS W5 KB n3 E3 := hr3.kept (hfar5 KB (by omega))
 have r1 : W5.cell? ⟨KB, 1, none⟩ = some (.int .i64 E3) := rd_cell hr5 rfl
 have e6 := (hfar5 w.heap.size (by omega)).trans e3
 have b05 : Below w.heap.size w W5 := b03.trans (hb5.mono (by omega))
 have hk5 : Kx W5 (fun q => w.heap.size + 1 ≤ q) k3 [.int .i64 x0, .string x1, .string x2, .int .i64 x3, .slice xa xk xc, .slice ya yk yc] := hk3.kept fun q hq hlt => ⟨by omega, hfar5 q (by omega)⟩
 clear hk3 hr3 hb3 hta e3 b02 e12 HX2 b03 e4 b4 e5 hfar5 hb5 hz1
 by_cases hE : E3 = 0
 ·subst hE
  have HD : Hid (∀ W, Kx W (fun q => w.heap.size ≤ q) k3 [.int .i64 x0, .string x1, .string x2, .int .i64 x3, .slice xa xk xc, .slice ya yk yc] → Below w.heap.size w W → OutPK w T (.returned (.tuple #[.agg #[.int .i64 x0, .string x1, .string x2, .int .i64 x3, .slice xa xk xc, .slice ya yk yc], .int .i64 0])) W) := fun W h1 h2 => by
   cases T with
   | bad x => exact absurd hrel3.1 (Ne.symm hrel3.2)
   | ok k l c =>
    obtain ⟨_, rfl, _, _⟩ := hrel3
    exact ⟨_, rfl, h1, h2⟩
  obtain ⟨⟨s0, s1, s2, s3, s4, s5⟩, ⟨sf0, sf1, sf2, sf3, sf4, sf5⟩, u0, u1, u2, u3, u4, u5⟩ := six_facts e6 (.int .i64 x0) (.string x1) (.string x2) (.int .i64 x3) (.slice xa xk xc) (.slice ya yk yc)
  have HF : Hid (OutPK w T (.returned (.tuple #[.agg #[.int .i64 x0, .string x1, .string x2, .int .i64 x3, .slice xa xk xc, .slice ya yk yc], .int .i64 0])) ((((((W5.setCell ⟨w.heap.size, 0, none⟩ (.int .i64 x0)).setCell ⟨w.heap.size, 1, none⟩ (.string x1)).setCell ⟨w.heap.size, 2, none⟩ (.string x2)).setCell ⟨w.heap.size, 3, none⟩ (.int .i64 x3)).setCell ⟨w.heap.size, 4, none⟩ (.slice xa xk xc)).setCell ⟨w.heap.size, 5, none⟩ (.slice ya yk yc))) := HD.out _ (hk5.kept fun q hq hlt => ⟨by omega, six_other _ (show q ≠ w.heap.size by omega) _ _ _ _ _ _⟩) ((six_but (rb := w.heap.size) (to_but b05) (Nat.le_refl _) _ _ _ _ _ _).below (Nat.le_refl _) (Nat.le_refl _))
  clear hrel3 HD e6 b05 hk5 hr5
  go_wp2_with fail
  exact bodyPost_ret (v := .tuple #[.agg #[.int .i64 x0, .string x1, .string x2, .int .i64 x3, .slice xa xk xc, .slice ya yk yc], .int .i64 0]) (by simp [results, Tryz.results6, go_sem, u0, u1, u2, u3, u4, u5]) rfl HF.out
 ·have i1 : (E3 != 0) = true := by simpa using hE
  have hT : T = .bad E3 := by
   cases T with
   | bad x => rw [hrel3.1]
   | ok k l c => exact absurd hrel3.1 hE
  have HF : Hid (∀ W, Below w.heap.size w W → OutPK w T (.returned (.tuple #[.agg #[.int .i64 0, .string ⟨#[]⟩, .string ⟨#[]⟩, .int .i64 0, .slice none 0 0, .slice none 0 0], .int .i64 E3])) W) := fun W h => by rw [hT]; exact ⟨rfl, hE, h⟩
  have k1 : W5.drew.cell? ⟨KB, 1, none⟩ = some (.int .i64 E3) := r1
  have e7 : W5.drew.heap[w.heap.size]? = some (.cells #[.int .i64 0, .string ⟨#[]⟩, .string ⟨#[]⟩, .int .i64 0, .slice none 0 0, .slice none 0 0] 32 (0, 0)) := e6
  have b07 : Below w.heap.size w W5.drew := b05.drew
  obtain ⟨WD, hWD⟩ : ∃ W, W5.drew = W := ⟨_, rfl⟩
  rw [hWD] at k1 e7 b07
  obtain ⟨⟨s0, s1, s2, s3, s4, s5⟩, ⟨sf0, sf1, sf2, sf3, sf4, sf5⟩, u0, u1, u2, u3, u4, u5⟩ := six_facts e7 (.int .i64 0) (.string ⟨#[]⟩) (.string ⟨#[]⟩) (.int .i64 0) (.slice none 0 0) (.slice none 0 0)
  have k2 : ((((((WD.setCell ⟨w.heap.size, 0, none⟩ (.int .i64 0)).setCell ⟨w.heap.size, 1, none⟩ (.string ⟨#[]⟩)).setCell ⟨w.heap.size, 2, none⟩ (.string ⟨#[]⟩)).setCell ⟨w.heap.size, 3, none⟩ (.int .i64 0)).setCell ⟨w.heap.size, 4, none⟩ (.slice none 0 0)).setCell ⟨w.heap.size, 5, none⟩ (.slice none 0 0)).cell? ⟨KB, 1, none⟩ = some (.int .i64 E3) := (six_cell WD hKBne 1 _ _ _ _ _ _).trans k1
  have HG : Hid (OutPK w T (.returned (.tuple #[.agg #[.int .i64 0, .string ⟨#[]⟩, .string ⟨#[]⟩, .int .i64 0, .slice none 0 0, .slice none 0 0], .int .i64 E3])) ((((((WD.setCell ⟨w.heap.size, 0, none⟩ (.int .i64 0)).setCell ⟨w.heap.size, 1, none⟩ (.string ⟨#[]⟩)).setCell ⟨w.heap.size, 2, none⟩ (.string ⟨#[]⟩)).setCell ⟨w.heap.size, 3, none⟩ (.int .i64 0)).setCell ⟨w.heap.size, 4, none⟩ (.slice none 0 0)).setCell ⟨w.heap.size, 5, none⟩ (.slice none 0 0))) := HF.out _ ((six_but (rb := w.heap.size) (to_but b07) (Nat.le_refl _) _ _ _ _ _ _).below (Nat.le_refl _) (Nat.le_refl _))
  clear hrel3 e6 e7 b05 b07 hk5 hr5 hT hE HF
  go_wp2_with fail
  refine wp_region_held_drew (S := fun W => W.cell? ⟨KB, 1, none⟩ = some (.int .i64 E3)) (by kernel_rfl) ?_ (fun hHeld => ?_)
  ·rw [hWD]; exact k1
  rw [hWD] at hHeld ⊢
  refine wpAnyH_take (i := 0) (v := ?_) rfl (by kernel_rfl) (by kernel_rfl) (by kernel_rfl) (fun _ _ _ h => h) (Or.inl ⟨by rfl, ?_⟩) (by assumption) ?_
  rotate_left
  ·intro w hSw; go_simp; (try with_reducible rfl)
  change wpAnyH _ _ _ _ _ _ _ (Act.put _ (some 16) _) _; simp only [Act.put, List.setIfInBounds_toArray, List.set_cons_zero, List.set_cons_succ]
  refine wpAnyH_take (i := 1) (v := ?_) rfl (by kernel_rfl) (by kernel_rfl) (by kernel_rfl) (fun _ _ _ h => h) (Or.inl ⟨by rfl, ?_⟩) (by assumption) ?_
  rotate_left
  ·intro w hSw; go_simp; (try with_reducible rfl)
  change wpAnyH _ _ _ _ _ _ _ (Act.put _ (some 17) _) _; simp only [Act.put, List.setIfInBounds_toArray, List.set_cons_zero, List.set_cons_succ]
  refine wpAnyH_take (i := 2) (v := ?_) rfl (by kernel_rfl) (by kernel_rfl) (by kernel_rfl) (fun _ _ _ h => h) (Or.inl ⟨by rfl, ?_⟩) (by assumption) ?_
  rotate_left
  ·intro w hSw; go_simp; (try with_reducible rfl)
  change wpAnyH _ _ _ _ _ _ _ (Act.put _ (some 18) _) _; simp only [Act.put, List.setIfInBounds_toArray, List.set_cons_zero, List.set_cons_succ]
  refine wpAnyH_take (i := 3) (v := ?_) rfl (by kernel_rfl) (by kernel_rfl) (by kernel_rfl) (fun _ _ _ h => h) (Or.inl ⟨by rfl, ?_⟩) (by assumption) ?_
  rotate_left
  ·intro w hSw; go_simp; (try with_reducible rfl)
  change wpAnyH _ _ _ _ _ _ _ (Act.put _ (some 19) _) _; simp only [Act.put, List.setIfInBounds_toArray, List.set_cons_zero, List.set_cons_succ]
  refine wpAnyH_take (i := 4) (v := ?_) rfl (by kernel_rfl) (by kernel_rfl) (by kernel_rfl) (fun _ _ _ h => h) (Or.inl ⟨by rfl, ?_⟩) (by assumption) ?_
  rotate_left
  ·intro w hSw; go_simp; (try with_reducible rfl)
  change wpAnyH _ _ _ _ _ _ _ (Act.put _ (some 20) _) _; simp only [Act.put, List.setIfInBounds_toArray, List.set_cons_zero, List.set_cons_succ]
  refine wpAnyH_ready (rs := [5]) (by kernel_rfl) (by simp) ?_
  refine AllReadyH.cons rfl (fun K hK => ?_) AllReadyH.nil
  go_simp
  refine hK.out _ _ ?_ (fun hHeld => ?_)
  ·exact k2
  clear hK K
  refine wpAnyH_take (i := 6) (v := ?_) rfl (by kernel_rfl) (by kernel_rfl) (by kernel_rfl) (fun _ _ _ h => h) (Or.inl ⟨by rfl, ?_⟩) (by assumption) ?_
  rotate_left
  ·intro w hSw; go_simp; (try with_reducible rfl)
  change wpAnyH _ _ _ _ _ _ _ (Act.put _ (some 3) _) _; simp only [Act.put, List.setIfInBounds_toArray, List.set_cons_zero, List.set_cons_succ]
  refine wpAnyH_done (by kernel_rfl) ?_ _
  go_wp2_with fail
  exact bodyPost_ret (v := .tuple #[.agg #[.int .i64 0, .string ⟨#[]⟩, .string ⟨#[]⟩, .int .i64 0, .slice none 0 0, .slice none 0 0], .int .i64 E3]) (by simp [results, Tryz.results6, go_sem, u0, u1, u2, u3, u4, u5]) rfl HG.out
end Go.Proofs.YtogigccbnohjjaaGreatDoor
