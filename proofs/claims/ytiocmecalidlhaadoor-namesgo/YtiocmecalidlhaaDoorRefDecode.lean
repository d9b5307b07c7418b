/-
  What the document's answer to Decode is: the name that the letters are, read strictly.
-/
import Derived.Test.YtiocmecalidlhaaDoorRefEncode
import Derived.Test.YtiocmecalidlhaaDoorStrictRead
import Derived.Test.YtiocmecalidlhaaDoorRead
import Derived.Test.YtiocmecalidlhaaDoorUtf8Enc
namespace Go.Proofs.YtiocmecalidlhaaDoor
open Go.RowKit Go.Proofs.Aid Go.Proofs.Ut

theorem Tryd.info3 : (Tryd.prog.info? 3).map (fun i => (i.zero, i.size, i.bytes)) = some (some (.int .i64 0), 1, 8) := by kernel_rfl
def i64s (us : List Nat) : List Value := us.map fun (u : Nat) => Value.int .i64 (u : Int)
theorem i64s_append (a b : List Nat) : i64s (a ++ b) = i64s a ++ i64s b := by simp [i64s]
theorem drop_cons (s : ByteArray) (i : Nat) (h : i < s.size) : s.data.toList.drop i = s[i] :: s.data.toList.drop (i + 1) := by
  have hl : i < s.data.toList.length := by rw [← Lib.size_eq]; exact h
  rw [List.drop_eq_getElem_cons hl]
  rfl
theorem bits_6 (u : Nat) (w : World) (hu : u < 4294967296) : Calls Tryd.prog 15 #[.int .i64 (u : Int), .int .i64 6] w fun e w' => e = .returned (.string ⟨(bitStr (bitsOf 6 u)).toArray⟩) ∧ Below w.heap.size w w' := bits_any u 6 w hu (by decide)

set_option maxHeartbeats 16000000 in
set_option maxRecDepth 100000 in
theorem refDecode_any (s : ByteArray) (w : World) (hs : s.size ≤ 400) (hT : Tabs w) :
    Calls Tryd.prog 10 #[.string s] w fun e w' => ((∃ name, decOf strictN s.data.toList = some name ∧ e = .returned (.tuple #[.string ⟨name.toArray⟩, .int .i64 0])) ∨ (decOf strictN s.data.toList = none ∧ e = .returned (.tuple #[.string ⟨#[]⟩, .int .i64 3]))) ∧ Below w.heap.size w w' := by
  obtain ⟨ANS, hANS⟩ : ∃ ANS, strictN s.data.toList = ANS := ⟨_, rfl⟩
  obtain ⟨FIN, hFIN⟩ : ∃ FIN, decOf strictN s.data.toList = FIN := ⟨_, rfl⟩
  rw [hFIN]
  have HF : Hid ((ANS.bind fun name => if rightB name = true ∧ encName name = s.data.toList then some name else none) = FIN) := by
    show _ = _
    rw [← hFIN, decOf, hANS]
  clear hFIN
  have hnone : ANS = none → FIN = none := by intro h; have := HF.out; rw [h] at this; exact this.symm
  have HN : Hid (ANS = none → FIN = none) := hnone
  clear hnone
  go_enter Tryd.func10, Tryd.ntmps10
  go_wp2
  go_loopw [4, 5] (fun ov iv wr => ∃ (i : Nat) (out : ByteArray), ov = .string out ∧ iv = .int .i64 (i : Int) ∧ i ≤ s.size ∧ (strictN (s.data.toList.drop i)).map (out.data.toList ++ ·) = ANS ∧ out.size + 4 * (s.size - i) ≤ 4000 ∧ Below w.heap.size w wr) (fun _ iv _ => s.size - (intOf iv).toNat)
  case atStart => exact ⟨0, ⟨#[]⟩, rfl, rfl, by omega, by simpa using hANS, by show 0 + 4 * (s.size - 0) ≤ 4000; omega, Below.refl _ _⟩
  case round =>
    obtain ⟨i, out, rfl, rfl, hi, hacc, hoz, hbw⟩ := hrel
    clear hANS
    by_cases hlt : i < s.size
    · have hltI : (i : Int) < (s.size : Int) := by omega
      have hd := drop_cons s i hlt
      obtain ⟨c, hc⟩ : ∃ c, s[i] = c := ⟨_, rfl⟩
      rw [hc] at hd
      by_cases h38 : c = 38
      · subst h38
        have cI := fun w => dash_call (s.extract i s.size) w
        rw [Lib.ext_list, hd] at cI
        rw [hd, strictN_cons, if_neg (by simp)] at hacc
        have hge := Lib.indexByte_ge (38 :: s.data.toList.drop (i + 1)) 45
        obtain ⟨E, hE⟩ : ∃ E, Lib.indexByte (38 :: s.data.toList.drop (i + 1)) 45 = E := ⟨_, rfl⟩
        rw [hE] at cI hacc hge
        by_cases hE0 : E < 0
        · rw [if_pos hE0] at hacc
          have HFN : Hid (FIN = none) := HN.out (by simpa using hacc.symm)
          clear hacc hE hd
          go_wp2_with (go_at_call 22; refine (cI _).mono ?_; rintro e w1 ⟨rfl, rfl⟩)
          go_ret2
          exact ⟨Or.inr ⟨HFN.out, rfl⟩, hbw⟩
        · obtain ⟨n, rfl⟩ : ∃ n : Nat, E = n := ⟨E.toNat, by omega⟩
          have hsome := Lib.indexByte_some hE
          have hn0 : n ≠ 0 := by
            intro hn; subst hn
            have := hsome.1
            simp at this
          have hnl : n < (38 :: s.data.toList.drop (i + 1)).length := (List.getElem?_eq_some_iff.1 hsome.1).1
          have hnt : i + n < s.size := by rw [List.length_cons, List.length_drop, ← Lib.size_eq] at hnl; omega
          have hn1 : 1 ≤ n := by omega
          have hb1 : (i : Int) + 1 ≤ (i : Int) + (n : Int) := by omega
          have hb2 : (i : Int) + (n : Int) ≤ (s.size : Int) := by omega
          rw [if_neg (by omega)] at hacc
          have hcd := Lib.extract_data s (i + 1) (i + n)
          rw [show i + n - (i + 1) = n - 1 by omega] at hcd
          have hcz : (s.extract (i + 1) (i + n)).size = n - 1 := by rw [Lib.size_eq, hcd, List.length_take, List.length_drop, ← Lib.size_eq]; omega
          clear hsome hnl hE hge hE0 hn0
          by_cases h1 : n = 1
          · subst h1
            rw [if_pos (by simp)] at hacc
            have hce : (s.extract (i + 1) (i + 1)).toList.isEmpty = true := by rw [Lib.toList_data, hcd]; rfl
            have HA : Hid ((strictN (s.data.toList.drop (i + 2))).map ((out ++ ⟨#[38]⟩ : ByteArray).data.toList ++ ·) = ANS) := by
              show _ = _
              rw [back_list, ← hacc, Option.map_map, List.drop_succ_cons, List.drop_drop]
              congr 1
              funext x
              simp
            clear hacc hcd hcz hd
            go_wp2_with (go_at_call 22; refine (cI _).mono ?_; rintro e w1 ⟨rfl, rfl⟩)
            go_roundw
            case rel => exact ⟨i + 2, out ++ ⟨#[38]⟩, rfl, by go_num, by omega, HA.out, by rw [back_size]; omega, hbw⟩
            case measure => simp [intOf]; omega
          · rw [if_neg (by omega), Int.toNat_natCast, List.drop_succ_cons, List.drop_zero, ← hcd, List.drop_succ_cons, List.drop_drop] at hacc
            have hcz2 : 1 ≤ (s.extract (i + 1) (i + n)).size := by omega
            have hcz3 : (s.extract (i + 1) (i + n)).size ≤ 400 := by omega
            have hce : (s.extract (i + 1) (i + n)).toList.isEmpty = false := by
              rw [Lib.toList_data, List.isEmpty_eq_false_iff]
              intro hh
              have := congrArg List.length hh
              rw [← Lib.size_eq, List.length_nil] at this
              omega
            have HIN : Hid (i + 1 + n = i + n + 1 ∧ (s.extract (i + 1) (i + n)).size + 1 = n) := ⟨by omega, by omega⟩
            obtain ⟨REST, hREST⟩ : ∃ R, strictN (s.data.toList.drop (i + 1 + n)) = R := ⟨_, rfl⟩
            rw [hREST] at hacc
            have HR : Hid (strictN (s.data.toList.drop (i + 1 + n)) = REST) := hREST
            have HA : Hid ((pieceOf (s.extract (i + 1) (i + n)).data.toList).bind (fun x => REST.map (fun y => out.data.toList ++ (x ++ y))) = ANS) := by
              show _ = _
              rw [← hacc]
              cases pieceOf (s.extract (i + 1) (i + n)).data.toList with
              | none => rfl
              | some x => cases REST <;> rfl
            clear hREST hacc hcd hcz hd
            have hwr : w.heap.size ≤ wr.heap.size := hbw.size
            go_wp2_with (go_at_call 22; refine (cI _).mono ?_; rintro e w1 ⟨rfl, rfl⟩)
            clear cI
            rw [show min (i + n) s.size - (i + 1) = (s.extract (i + 1) (i + n)).size by have := HIN.out.2; omega]
            generalize s.extract (i + 1) (i + n) = cd at HIN HA hcz2 hcz3 hce ⊢
            obtain ⟨ct, hct⟩ : ∃ ct, cd.data.toList = ct := ⟨_, rfl⟩
            rw [hct] at HA
            have HCT : Hid (cd.data.toList = ct) := hct
            have hctl : ct.length = cd.size := by rw [← hct, ← Lib.size_eq]
            have HCL : Hid (ct.length = cd.size) := hctl
            clear hct hctl
            go_loopw [8, 58] (fun bv jv w2 => ∃ (j : Nat) (b : ByteArray), bv = .string b ∧ jv = .int .i64 (j : Int) ∧ j ≤ cd.size ∧ b.data.toList = bitStr (bits6 (ct.take j)) ∧ b.size ≤ 6 * j ∧ goodLetters (ct.take j) = true ∧ Below w.heap.size w w2) (fun _ jv _ => cd.size - (intOf jv).toNat)
            case atStart => exact ⟨0, ⟨#[]⟩, rfl, rfl, by omega, rfl, by simp [ByteArray.size], rfl, hbw⟩
            case round =>
              clear hbw hwr
              obtain ⟨j, b, rfl, rfl, hj, hb, hbz, hgood, hbw⟩ := hrel
              by_cases hjl : j < cd.size
              · have hjI : (j : Int) < (cd.size : Int) := by omega
                have hjc : j < ct.length := by have := HCL.out; omega
                obtain ⟨c, hc⟩ : ∃ c, ct[j] = c := ⟨_, rfl⟩
                have hcj : cd[j] = c := by
                  have h1 : cd[j] = cd.data.toList[j]'(by rw [← Lib.size_eq]; exact hjl) := by rw [Array.getElem_toList]; rfl
                  rw [h1]
                  simp only [HCT.out]
                  exact hc
                have hbt := bits6_take ct j hjc
                have hgs : goodLetters (ct.take (j + 1)) = (goodLetters (ct.take j) && decide (0 ≤ idx c)) := by
                  rw [List.take_succ_eq_append_getElem hjc, hc]; simp [goodLetters]
                rw [hc] at hbt
                have cX := fun w => idx_call c w
                have hil := idx_lt c
                by_cases hneg : idx c < 0
                · have hbad : goodLetters ct = false := by
                    rw [Bool.eq_false_iff]
                    intro hg
                    have := List.all_eq_true.1 hg c (by rw [← hc]; exact List.getElem_mem _)
                    simp at this; omega
                  have HFN : Hid (FIN = none) := HN.out (by have := HA.out; rw [pieceOf, hbad, if_neg (by simp)] at this; exact this.symm)
                  clear hbad hgs hbt hc hb
                  go_wp2_with (go_at_call 22; refine (cX _).mono ?_; rintro e w3 ⟨rfl, rfl⟩)
                  go_ret2
                  exact ⟨Or.inr ⟨HFN.out, rfl⟩, hbw⟩
                · obtain ⟨u, hu⟩ : ∃ u : Nat, idx c = u := ⟨(idx c).toNat, by omega⟩
                  rw [hu] at cX hil hgs hbt hneg
                  rw [Int.toNat_natCast] at hbt
                  rw [hgood, Bool.true_and, decide_eq_true (by omega)] at hgs
                  have cB := fun w => bits_6 u w (by omega)
                  have hbxz : (⟨(bitStr (bitsOf 6 u)).toArray⟩ : ByteArray).size ≤ 6 := by rw [Lib.size_eq]; simp [bitStr_length, length_bitsOf]
                  have hbxl : (⟨(bitStr (bitsOf 6 u)).toArray⟩ : ByteArray).data.toList = bitStr (bitsOf 6 u) := rfl
                  generalize (⟨(bitStr (bitsOf 6 u)).toArray⟩ : ByteArray) = bx at cB hbxz hbxl
                  have HB : Hid ((b ++ bx).data.toList = bitStr (bits6 (ct.take (j + 1)))) := by show _ = _; rw [Joins.data_append, hb, hbxl, hbt, bitStr_append]
                  have HBZ : Hid ((b ++ bx).size ≤ 6 * (j + 1)) := by show _ ≤ _; rw [Lib.size_eq, Joins.data_append, List.length_append, ← Lib.size_eq, ← Lib.size_eq]; omega
                  have HG : Hid (goodLetters (ct.take (j + 1)) = true) := hgs
                  clear hbxl hgs hbt hb hu hc
                  go_wp2_with (first
                    | (go_at_call 22; refine (cX _).mono ?_; rintro e w3 ⟨rfl, rfl⟩)
                    | (go_at_call 15; refine (cB _).mono ?_; rintro e w4 ⟨rfl, hb4⟩))
                  go_roundw
                  case rel => exact ⟨j + 1, b ++ bx, rfl, by go_num, by omega, HB.out, HBZ.out, HG.out, hbw.trans (hb4.mono hbw.size)⟩
                  case measure => simp [intOf]; omega
              · have hj2 : ct.take j = ct := List.take_of_length_le (by have := HCL.out; omega)
                rw [hj2] at hb hgood
                rw [pieceOf, if_pos hgood] at HA
                have HB : Hid (b.data.toList = bitStr (bits6 ct)) := hb
                have hb6 := bits6_length ct
                have hb6l : (bits6 ct).length ≤ 2400 := by have := HCL.out; omega
                obtain ⟨BT, hBT⟩ : ∃ BT, bits6 ct = BT := ⟨_, rfl⟩
                rw [hBT] at HB hb6l
                have hun : unitsIn ct = pieces 16 BT (BT.length / 16) := by rw [unitsIn, hBT]
                rw [hun] at HA
                have hBTn : BT.length / 16 + 1 ≤ n := by have h1 := HCL.out; have h2 := HIN.out.2; rw [← hBT, hb6]; omega
                have hbs : b.size = BT.length := by rw [Lib.size_eq, HB.out, bitStr_length]
                clear hj2 hb hgood hb6 hBT hun
                go_wp2
                go_loopw [8, 11] (fun bv uv w3 => ∃ (q : Nat) (bb : ByteArray), bv = .string bb ∧ bb.data.toList = bitStr (BT.drop (16 * q)) ∧ bb.size + 16 * q = BT.length ∧ w3.ownsRow w.heap.size 3 1 uv q (i64s (pieces 16 BT q)) ∧ Below w.heap.size w w3) (fun bv _ _ => strLen bv)
                case atStart => exact ⟨0, b, rfl, by rw [HB.out]; simp, by omega, World.ownsRow_nil _ _ _ _, hbw⟩
                case round =>
                  clear hbw hbs
                  obtain ⟨q, bb, rfl, hbb, hbbs, hown, hbw⟩ := hrel
                  by_cases h16 : 16 ≤ bb.size
                  · have h16I : (16 : Int) ≤ (bb.size : Int) := by omega
                    have hwr : w.heap.size ≤ wr.heap.size := hbw.size
                    have hx := Lib.extract_data bb 0 16
                    rw [hbb] at hx
                    obtain ⟨D, hD⟩ : ∃ D, (BT.drop (16 * q)).take 16 = D := ⟨_, rfl⟩
                    have hDl : D.length = 16 := by rw [← hD, List.length_take, List.length_drop]; omega
                    have hsD : (bb.extract 0 16).data.toList = bitStr D := by rw [hx, ← hD]; simp [bitStr, List.map_take]
                    have hsz : (bb.extract 0 16).size = 16 := by rw [Lib.size_eq, hsD, bitStr_length, hDl]
                    have HPC : Hid (val D = piece 16 BT q) := by show _ = _; rw [← hD]; rfl
                    have he := Lib.ext_list bb 16
                    have hes := Lib.ext_size bb 16
                    have HBE : Hid ((bb.extract 16 bb.size).data.toList = bitStr (BT.drop (16 * (q + 1)))) := by
                      show _ = _
                      rw [he, hbb, Nat.mul_succ, ← List.drop_drop]; simp [bitStr, List.map_drop]
                    have HBS : Hid ((bb.extract 16 bb.size).size + 16 * (q + 1) = BT.length ∧ (bb.extract 16 bb.size).size < bb.size) := ⟨by omega, by omega⟩
                    have HSD : Hid ((bb.extract 0 16).data.toList = bitStr D) := hsD
                    have HSZ : Hid ((bb.extract 0 16).size = 16) := hsz
                    have HDL : Hid (D.length = 16) := hDl
                    clear hx hD hDl hsD hsz he hes hbb
                    go_wp2
                    generalize bb.extract 0 16 = sub at HSD HSZ ⊢
                    go_loopw [12] (fun kv w4 => ∃ p : Nat, p ≤ 16 ∧ kv = .int .i64 ((val (D.take p) : Nat) : Int) ∧ w4.heap[wr.heap.size]? = some (.stringIter sub p) ∧ w4.ownsRow w.heap.size 3 1 u11 q (i64s (pieces 16 BT q)) ∧ Below w.heap.size w w4) (fun _ w4 => 16 - w4.iterPos wr.heap.size)
                    case atStart => exact ⟨0, by omega, by simp [val], World.iter_heap wr sub 0, hown.alloc _, hbw.alloc hwr _⟩
                    case round =>
                      clear hown hbw
                      obtain ⟨p, hp16, rfl, hit, hown, hbw⟩ := hrel
                      by_cases hp : p < 16
                      · have hps : p < sub.size := by have := HSZ.out; omega
                        have hpD : p < D.length := by have := HDL.out; omega
                        have hbit := bit_at HSD.out p hps hpD
                        have hvt := val_take D p hpD
                        have hvl := val_lt (D.take p)
                        have hvl2 : val (D.take p) < 65536 := Nat.lt_of_lt_of_le hvl (by rw [List.length_take]; exact Nat.pow_le_pow_right (i := min p D.length) (j := 16) (show 2 > 0 by decide) (by omega))
                        have hit2 := Lib.iterAt_heap _ _ sub p (p + 1) hit
                        have hown2 := row_iterAt hown hit sub (p + 1)
                        have hbw2 := Lib.below_iterAt hbw hwr sub (p + 1)
                        rcases hb : D[p] with _ | _
                        all_goals
                          rw [hb] at hbit hvt
                          simp only [bitB, if_true, Bool.false_eq_true, if_false] at hbit
                          have hnx := fun ty => Lib.run_next_ascii_at (P := Tryd.prog) _ _ sub p ty hit hps (by rw [hbit]; decide)
                          rw [hbit] at hnx
                          have HV : Hid (val (D.take (p + 1)) = _) := hvt
                          clear hvt hbit hvl
                          go_wp2
                          go_roundw
                          case rel =>
                            refine ⟨p + 1, by omega, ?_, hit2, hown2, hbw2⟩
                            rw [HV.out]
                            simp only [Bool.toNat_false, Bool.toNat_true]
                            go_num
                          case measure =>
                            simp only [World.iterPos, hit2, hit]
                            omega
                      · obtain rfl : p = 16 := by omega
                        have hnx := fun ty => Lib.run_next_end_at (P := Tryd.prog) _ _ sub 16 ty hit (by have := HSZ.out; omega)
                        have hD6 : D.take 16 = D := List.take_of_length_le (by have := HDL.out; omega)
                        rw [hD6]
                        have hk64 : val D < 65536 := by have := val_lt D; rw [HDL.out] at this; exact this
                        generalize val D = kk at HPC hk64 ⊢
                        clear hD6
                        go_wp2_with (at_builtin; go_must (refine wpList_push rfl _ _ 44 rfl _ w.heap.size 3 (.int .i64 0) 8 Tryd.underlying44 Tryd.info3 rfl _ _ _ (by rfl) hown [.int .i64 (kk : Int)] _ (by rfl) (by simp) (by simp [Value.oneCell']) (by simp) (by rfl) (by decide) (by simp; omega) hbw.size ?_); intro g1 cap1 w1 hown1 hg1 hlt1)
                        go_roundw
                        case rel =>
                          refine ⟨q + 1, bb.extract 16 bb.size, rfl, HBE.out, HBS.out.1, ?_, hbw.grown hg1 hbw.size (fun k hk => (hown.lt k hk).1)⟩
                          rw [pieces_succ, i64s_append, ← HPC.out]
                          exact hown1
                        case measure =>
                          have := HBS.out.2
                          simp only [strLen]
                          omega
                  · have hq : BT.length / 16 = q := by omega
                    rw [hq] at HA
                    have hus : ∀ u ∈ pieces 16 BT q, u < 65536 := by
                      intro u hu
                      simp only [pieces, List.mem_map] at hu
                      obtain ⟨i, _, rfl⟩ := hu
                      exact piece_lt 16 BT i
                    have hul : (pieces 16 BT q).length = q := pieces_length _ _ _
                    have hqn : q + 1 ≤ n := by omega
                    generalize pieces 16 BT q = US at HA hown hus hul
                    clear hbb hbbs hq hBTn hb6l
                    have HUL : Hid (US.length = q) := hul
                    have hulq : US.length ≤ q := by omega
                    have hqU : q ≤ US.length := by omega
                    have hq400 : q ≤ 400 := by omega
                    have HA2 : Hid ((strictOf US).bind (fun rs => REST.map (fun y => out.data.toList ++ (rs.flatMap enc8 ++ y))) = ANS) := by
                      show _ = _
                      have := HA.out
                      rw [← this]
                      cases strictOf US <;> rfl
                    clear HA hul
                    have hown0 := hown
                    rcases hown.2 with ⟨hv, hn⟩ | ⟨g, cap, cur, hv, _⟩
                    · rw [hv]
                      have hUn : US = [] := List.length_eq_zero_iff.1 (by omega)
                      subst hUn
                      go_wp2
                      refine wp_loop_rounds 1 ?_
                      rw [rounds_succ]
                      go_wp2
                      go_roundw
                      case rel =>
                        refine ⟨i + n + 1, out, rfl, by go_num, by omega, ?_, by omega, hbw⟩
                        have h1 := HA2.out
                        rw [strictOf] at h1
                        rw [← HIN.out.1, HR.out, ← h1]
                        rfl
                      case measure => simp [intOf]; omega
                    · rw [hv]
                      rw [hv] at hown0
                      have hcells : ∀ k, k < US.length → ∀ w4 : World, w4.ownsRow w.heap.size 3 1 (.slice (some ⟨g, 0, none⟩) q cap) q (i64s US) → w4.cell? ⟨g, k, none⟩ = some (.int .i64 ((US.getD k 0 : Nat) : Int)) := by
                        intro k hk w4 h4
                        rw [h4.cellAt k (by omega)]
                        simp [i64s, hk]
                      have HC : Hid (∀ k, k < US.length → ∀ w4 : World, w4.ownsRow w.heap.size 3 1 (.slice (some ⟨g, 0, none⟩) q cap) q (i64s US) → w4.cell? ⟨g, k, none⟩ = some (.int .i64 ((US.getD k 0 : Nat) : Int))) := hcells
                      clear hcells hv hown
                      go_wp2
                      go_loopw [4, 15] (fun ov jv w5 => ∃ (j : Nat) (o2 : ByteArray), ov = .string o2 ∧ jv = .int .i64 (j : Int) ∧ j ≤ q ∧ (strictOf (US.drop j)).bind (fun rs => REST.map (fun y => o2.data.toList ++ (rs.flatMap enc8 ++ y))) = ANS ∧ o2.size ≤ out.size + 4 * j ∧ w5.ownsRow w.heap.size 3 1 (.slice (some ⟨g, 0, none⟩) q cap) q (i64s US) ∧ Below w.heap.size w w5) (fun _ jv _ => q - (intOf jv).toNat)
                      case atStart => exact ⟨0, out, rfl, rfl, by omega, by simpa using HA2.out, by omega, hown0, hbw⟩
                      case round =>
                        clear hown0 hbw HA2
                        obtain ⟨j, o2, rfl, rfl, hjq, hacc, ho2, hown, hbw⟩ := hrel
                        have ho2z : o2.size ≤ 8000 := by omega
                        by_cases hjl : j < q
                        · have hjU : j < US.length := by omega
                          have hjI : (j : Int) < (q : Int) := by omega
                          have hd : US.drop j = US[j] :: US.drop (j + 1) := List.drop_eq_getElem_cons hjU
                          have hcell := HC.out j hjU _ hown
                          have hult : US.getD j 0 < 65536 := hus _ (by rw [List.getD_eq_getElem?_getD]; simp [hjU])
                          have hgk : US[j] = US.getD j 0 := by simp [hjU]
                          rw [hgk] at hd
                          generalize US.getD j 0 = u at hd hcell hult
                          clear hgk
                          have cN := fun (n lo hi : Int) (w : World) => in_any n lo hi w
                          by_cases hpair : isUp u = true ∧ ∃ v t, US.drop (j + 1) = v :: t ∧ isLow v = true
                          · obtain ⟨hup, v, t, hd2, hlow⟩ := hpair
                            have hlt2 : j + 1 < US.length := by
                              have := congrArg List.length hd2
                              simp at this; omega
                            have hcell2 := HC.out (j + 1) hlt2 _ hown
                            have hv : US.getD (j + 1) 0 = v := by
                              have := List.drop_eq_getElem_cons hlt2
                              rw [hd2] at this
                              simp [hlt2]; exact (List.cons.inj this).1.symm
                            have ht : t = US.drop (j + 2) := by
                              have := List.drop_eq_getElem_cons hlt2
                              rw [hd2] at this
                              exact (List.cons.inj this).2
                            rw [hv] at hcell2
                            rw [hd, hd2, strict_pair hup hlow, ht] at hacc
                            simp [isUp] at hup
                            simp [isLow] at hlow
                            obtain ⟨hup1, hup2⟩ := hup
                            obtain ⟨hlow1, hlow2⟩ := hlow
                            have hj2I : (j : Int) + 1 < (q : Int) := by omega
                            obtain ⟨R, hR⟩ : ∃ R : Nat, 65536 + (u - 55296) * 1024 + (v - 56320) = R := ⟨_, rfl⟩
                            rw [hR] at hacc
                            have hRI : (R : Int) = 65536 + ((u : Int) - 55296) * 1024 + (v : Int) - 56320 := by omega
                            have hez := encode_size R
                            have hel := encode_list R
                            rw [hRI] at hez hel
                            have HEL : Hid ((o2 ++ Utf8.encode (65536 + ((u : Int) - 55296) * 1024 + (v : Int) - 56320)).data.toList = o2.data.toList ++ enc8 R) := by show _ = _; rw [Joins.data_append, hel]
                            have HES : Hid ((o2 ++ Utf8.encode (65536 + ((u : Int) - 55296) * 1024 + (v : Int) - 56320)).size ≤ o2.size + 4) := by show _ ≤ _; rw [Lib.size_eq, Joins.data_append, List.length_append, ← Lib.size_eq, ← Lib.size_eq]; omega
                            have HA3 : Hid (((strictOf (US.drop (j + 2))).map (R :: ·)).bind (fun rs => REST.map (fun y => o2.data.toList ++ (rs.flatMap enc8 ++ y))) = ANS) := hacc
                            clear hd hd2 hv ht hR hacc hRI hel
                            go_wp2_with (go_at_call 14; refine (cN _ _ _ _).mono ?_; rintro e w' ⟨rfl, rfl⟩)
                            go_roundw
                            case rel =>
                              refine ⟨j + 2, _, rfl, by go_num, by omega, ?_, Nat.le_trans HES.out (by omega), hown, hbw⟩
                              rw [← HA3.out, HEL.out]
                              cases strictOf (US.drop (j + 2)) with
                              | none => rfl
                              | some rs => cases REST <;> simp
                            case measure => simp [intOf]; omega
                          · by_cases hhalf : 55296 ≤ u ∧ u ≤ 57343
                            · have hal2 : isUp u = false ∨ (isUp u = true ∧ US.drop (j + 1) = []) ∨ (isUp u = true ∧ ∃ v t, US.drop (j + 1) = v :: t ∧ isLow v = false) := by
                                by_cases h1 : isUp u = true
                                · right
                                  rcases hdd : US.drop (j + 1) with _ | ⟨v, t⟩
                                  · exact Or.inl ⟨h1, rfl⟩
                                  · right
                                    refine ⟨h1, v, t, rfl, ?_⟩
                                    rw [Bool.eq_false_iff]
                                    intro h2
                                    exact hpair ⟨h1, v, t, hdd, h2⟩
                                · exact Or.inl (by simpa using h1)
                              rw [hd, strict_half hhalf (hal2.imp id (Or.imp And.right And.right))] at hacc
                              have HFN : Hid (FIN = none) := HN.out hacc.symm
                              obtain ⟨hh1, hh2⟩ := hhalf
                              clear hacc hd hpair
                              rcases hal2 with h | ⟨h, hd2⟩ | ⟨h, v, t, hd2, hlow⟩
                              · have hu2 : 56319 < u := by simp [isUp] at h; omega
                                clear h
                                go_wp2_with (go_at_call 14; refine (cN _ _ _ _).mono ?_; rintro e w' ⟨rfl, rfl⟩)
                                go_ret2
                                exact ⟨Or.inr ⟨HFN.out, rfl⟩, hbw⟩
                              · have hu2 : u ≤ 56319 := by simp [isUp] at h; omega
                                have hle2 : q ≤ j + 1 := by have : US.length ≤ j + 1 := by simpa using hd2
                                                            omega
                                have hle2I : ¬ ((j : Int) + 1 < (q : Int)) := by omega
                                clear h hd2
                                go_wp2_with (go_at_call 14; refine (cN _ _ _ _).mono ?_; rintro e w' ⟨rfl, rfl⟩)
                                go_ret2
                                exact ⟨Or.inr ⟨HFN.out, rfl⟩, hbw⟩
                              · have hu2 : u ≤ 56319 := by simp [isUp] at h; omega
                                have hlt2 : j + 1 < US.length := by
                                  have := congrArg List.length hd2
                                  simp at this; omega
                                have hcell2 := HC.out (j + 1) hlt2 _ hown
                                have hv : US.getD (j + 1) 0 = v := by
                                  have := List.drop_eq_getElem_cons hlt2
                                  rw [hd2] at this
                                  simp [hlt2]; exact (List.cons.inj this).1.symm
                                rw [hv] at hcell2
                                have hvlt : v < 65536 := hus v (by rw [← hv, List.getD_eq_getElem?_getD]; simp [hlt2])
                                have hv2 : v < 56320 ∨ 57343 < v := by simp [isLow] at hlow; omega
                                have hj2I : (j : Int) + 1 < (q : Int) := by omega
                                clear h hd2 hv hlow
                                rcases hv2 with hv2 | hv2
                                all_goals
                                  go_wp2_with (go_at_call 14; refine (cN _ _ _ _).mono ?_; rintro e w' ⟨rfl, rfl⟩)
                                  go_ret2
                                  exact ⟨Or.inr ⟨HFN.out, rfl⟩, hbw⟩
                            · rw [hd, strict_alone hhalf] at hacc
                              have hez := encode_size u
                              have HEL : Hid ((o2 ++ Utf8.encode (u : Int)).data.toList = o2.data.toList ++ enc8 u) := by show _ = _; rw [Joins.data_append, encode_list]
                              have HES : Hid ((o2 ++ Utf8.encode (u : Int)).size ≤ o2.size + 4) := by show _ ≤ _; rw [Lib.size_eq, Joins.data_append, List.length_append, ← Lib.size_eq, ← Lib.size_eq]; omega
                              have HA3 : Hid (((strictOf (US.drop (j + 1))).map (u :: ·)).bind (fun rs => REST.map (fun y => o2.data.toList ++ (rs.flatMap enc8 ++ y))) = ANS) := hacc
                              have hu2 : u < 55296 ∨ 57343 < u := by omega
                              clear hd hacc hpair hhalf
                              rcases hu2 with hu2 | hu2
                              all_goals
                                go_wp2_with fail
                                refine (in_no u 55296 56319 _ (by omega)).mono ?_
                                rintro e w' ⟨rfl, rfl⟩
                                go_wp2_with fail
                                refine (in_no u 55296 57343 _ (by omega)).mono ?_
                                rintro e w' ⟨rfl, rfl⟩
                                go_wp2_with fail
                                go_roundw
                                case rel =>
                                  refine ⟨j + 1, _, rfl, by go_num, by omega, ?_, Nat.le_trans HES.out (by omega), hown, hbw⟩
                                  rw [← HA3.out, HEL.out]
                                  cases strictOf (US.drop (j + 1)) with
                                  | none => rfl
                                  | some rs => cases REST <;> simp
                                case measure => simp [intOf]; omega
                        · rw [List.drop_eq_nil_of_le (by omega), strictOf] at hacc
                          have HA3 : Hid (REST.map (fun y => o2.data.toList ++ ([] ++ y)) = ANS) := hacc
                          clear hacc
                          go_wp2
                          go_roundw
                          case rel =>
                            refine ⟨i + n + 1, o2, rfl, by go_num, by omega, ?_, by omega, hbw⟩
                            rw [← HIN.out.1, HR.out, ← HA3.out]
                            rfl
                          case measure => simp [intOf]; omega
      · have hne : ((c.toNat : Int) != 38) = true := by
          rw [bne_iff_ne]; intro h; exact h38 (UInt8.toNat_inj.1 (by show c.toNat = 38; omega))
        rw [hd, strictN_cons, if_pos h38] at hacc
        have he1 := Lib.extract_data s i (i + 1)
        rw [hd, show i + 1 - i = 1 by omega] at he1
        have hz1 : (s.extract i (i + 1)).size = 1 := by rw [Lib.size_eq, he1]; rfl
        have HA : Hid ((strictN (s.data.toList.drop (i + 1))).map ((out ++ s.extract i (i + 1)).data.toList ++ ·) = ANS) := by
          show _ = _
          rw [Joins.data_append, he1, ← hacc, Option.map_map]
          congr 1
          funext x
          simp
        have hz2 : (out ++ s.extract i (i + 1)).size = out.size + 1 := by rw [Lib.size_eq, Joins.data_append, List.length_append, ← Lib.size_eq, ← Lib.size_eq, hz1]
        have HZ : Hid ((out ++ s.extract i (i + 1)).size = out.size + 1) := hz2
        have hz1' : (s.extract i (i + 1)).size ≤ 1 := by omega
        have hi1 : (i : Int) + 1 ≤ (s.size : Int) := by omega
        clear hacc he1 hz1 hz2 hd
        go_wp2
        go_roundw
        case rel => exact ⟨i + 1, out ++ s.extract i (i + 1), rfl, by go_num, by omega, HA.out, by rw [HZ.out]; omega, hbw⟩
        case measure => simp [intOf]; omega
    · rw [drop_nil s i hlt, strictN_nil] at hacc
      have HA : Hid (some out.data.toList = ANS) := by show _ = _; simpa using hacc
      have hTr : Tabs wr := hT.below hbw
      have hF2 := HF.out
      rw [← HA.out] at hF2
      have HF2 : Hid ((if rightB out.data.toList = true ∧ encName out.data.toList = s.data.toList then some out.data.toList else none) = FIN) := hF2
      clear hacc hF2 HF HN HA
      cases hr : rightB out.data.toList
      · have cE := refEncode_no out wr (by omega) hTr hr
        have HFN : Hid (FIN = none) := by show FIN = none; have := HF2.out; rw [hr, if_neg (by simp)] at this; exact this.symm
        clear hr HF2
        go_wp2_with (go_at_call 5; refine cE.mono ?_; rintro e w1 ⟨rfl, hb1⟩)
        go_ret2
        exact ⟨Or.inr ⟨HFN.out, rfl⟩, hbw.trans (hb1.mono hbw.size)⟩
      · have cE := refEncode_yes out wr (by omega) hTr hr
        by_cases he : encName out.data.toList = s.data.toList
        · rw [he, show (⟨s.data.toList.toArray⟩ : ByteArray) = s by simp] at cE
          have HFS : Hid (FIN = some out.data.toList) := by show _ = _; have := HF2.out; rw [if_pos ⟨hr, he⟩] at this; exact this.symm
          clear hr he HF2
          go_wp2_with (go_at_call 5; refine cE.mono ?_; rintro e w1 ⟨rfl, hb1⟩)
          go_ret2
          exact ⟨Or.inl ⟨out.data.toList, HFS.out, by rw [show (⟨out.data.toList.toArray⟩ : ByteArray) = out by simp]; rfl⟩, hbw.trans (hb1.mono hbw.size)⟩
        · obtain ⟨x, hx⟩ : ∃ x : ByteArray, ⟨(encName out.data.toList).toArray⟩ = x := ⟨_, rfl⟩
          rw [hx] at cE
          have hne : (x.toList == s.toList) = false := by
            rw [beq_eq_false_iff_ne, Lib.toList_data, Lib.toList_data, ← hx]
            exact he
          have HFN : Hid (FIN = none) := by show FIN = none; have := HF2.out; rw [if_neg (fun h => he h.2)] at this; exact this.symm
          clear hr he HF2 hx
          go_wp2_with (go_at_call 5; refine cE.mono ?_; rintro e w1 ⟨rfl, hb1⟩)
          go_ret2
          exact ⟨Or.inr ⟨HFN.out, rfl⟩, hbw.trans (hb1.mono hbw.size)⟩
end Go.Proofs.YtiocmecalidlhaaDoor
