/-
  The document's Rename: what is wrong; INBOX's messages go to a new box.
-/
import Derived.Test.YtfdlopimncodcaaGreatDoorBpHsInv
namespace Go.Proofs.YtfdlopimncodcaaGreatDoor
open Go.RowKit Go.Proofs.Aid Go.Proofs.Bx
set_option maxHeartbeats 8000000
set_option maxRecDepth 100000
theorem nameB_short {s N : Nm} (h : nameB s = some N) : N.length ≤ 60 := (nmOk_of (nameB_idem h)).len.2
theorem rren_err (hb mb wb : Nat) (l : Bxs) (nx : Int) (s u : ByteArray) (w : World) (hE : NEnv w) (h : RHs w hb mb wb l nx) (hs : s.size ≤ 1000) (hu : u.size ≤ 1000)
  (hbad : ¬ ∃ N T, nameB s.data.toList = some N ∧ hasB l N = true ∧ nameB u.data.toList = some T ∧ hasB l T = false) :
  Calls Tryz.prog 45 #[.pointer (some ⟨hb, 0, none⟩), .string s, .string u] w fun e w' => Below w.heap.size w w' ∧
   ((nameB s.data.toList = none ∧ e = .returned (.int .i64 1)) ∨ (∃ N, nameB s.data.toList = some N ∧ hasB l N = false ∧ e = .returned (.int .i64 7)) ∨
   (∃ N, nameB s.data.toList = some N ∧ hasB l N = true ∧ nameB u.data.toList = none ∧ e = .returned (.int .i64 1)) ∨
   (∃ N T, nameB s.data.toList = some N ∧ hasB l N = true ∧ nameB u.data.toList = some T ∧ hasB l T = true ∧ e = .returned (.int .i64 9))) := by
 have cG := rget_is hb mb wb l nx s w hE h hs
 have HH : Hid (RHs w hb mb wb l nx ∧ NEnv w ∧ ¬ ∃ N T, nameB s.data.toList = some N ∧ hasB l N = true ∧ nameB u.data.toList = some T ∧ hasB l T = false) := ⟨h, hE, hbad⟩
 clear hE h hbad
 go_enter Tryz.func45, Tryz.ntmps45
 go_wp2_with fail
 refine cG.mono ?_
 rintro e w1 ⟨hb1, ⟨r, b, hr, hm, rfl⟩ | ⟨r, hr, hno, rfl⟩ | ⟨hr, rfl⟩⟩
 ·have cN1 := rname_is s w1 (HH.out.2.1.below hb1) hs
  have HR : Hid (Below w.heap.size w w1 ∧ nameB s.data.toList = some r.data.toList ∧ hasB l r.data.toList = true) := ⟨hb1, hr, hasB_true.2 ⟨b, hm⟩⟩
  clear cG hb1 hr hm
  go_wp2_with fail
  refine cN1.mono ?_
  rintro e w2 ⟨hb2, ⟨r2, hr2, hr3, rfl⟩ | ⟨hr2, rfl⟩⟩
  ·have hB2 : Below w.heap.size w w2 := HR.out.1.trans (hb2.mono HR.out.1.size)
   have cN2 := rname_is u w2 (HH.out.2.1.below hB2) hu
   have HB2 : Hid (Below w.heap.size w w2) := hB2
   clear cN1 hb2 hr2 hB2
   go_wp2_with fail
   refine cN2.mono ?_
   rintro e w3 ⟨hb3, ⟨q, hq, hq2, rfl⟩ | ⟨hq, rfl⟩⟩
   ·have hB3 : Below w.heap.size w w3 := HB2.out.trans (hb3.mono HB2.out.size)
    have h3 := HH.out.1.below hB3 (Nat.le_refl _)
    have c0 := h3.cell.1
    have hhas : hasB l q.data.toList = true := by
     cases hh : hasB l q.data.toList with
     | true => rfl
     | false => exact absurd ⟨_, _, HR.out.2.1, HR.out.2.2, hq, hh⟩ HH.out.2.2
    obtain ⟨b2, hm2⟩ := hasB_true.1 hhas
    have hlk := rmp_look h3.2 q (by omega) (b := b2) hm2
    have HF : Hid (Below w.heap.size w w3 ∧ nameB u.data.toList = some q.data.toList ∧ hasB l q.data.toList = true) := ⟨hB3, hq, hhas⟩
    clear cN2 hb3 hq hB3 h3 hhas hm2
    go_wp2_with fail
    go_ret
    exact ⟨HF.out.1, Or.inr (Or.inr (Or.inr ⟨_, _, HR.out.2.1, HR.out.2.2, HF.out.2.1, HF.out.2.2, rfl⟩))⟩
   ·have HF : Hid (Below w.heap.size w w3 ∧ nameB u.data.toList = none) := ⟨HB2.out.trans (hb3.mono HB2.out.size), hq⟩
    clear cN2 hb3 hq
    go_wp2_with fail
    go_ret
    exact ⟨HF.out.1, Or.inr (Or.inr (Or.inl ⟨_, HR.out.2.1, HR.out.2.2, HF.out.2, rfl⟩))⟩
  ·rw [HR.out.2.1] at hr2
   cases hr2
 ·have HF : Hid (Below w.heap.size w w1 ∧ nameB s.data.toList = some r.data.toList ∧ hasB l r.data.toList = false) := ⟨hb1, hr, hno⟩
  clear cG hb1 hr hno
  go_wp2_with fail
  go_ret
  exact ⟨HF.out.1, Or.inr (Or.inl ⟨_, HF.out.2.1, HF.out.2.2, rfl⟩)⟩
 ·have HF : Hid (Below w.heap.size w w1 ∧ nameB s.data.toList = none) := ⟨hb1, hr⟩
  clear cG hb1 hr
  go_wp2_with fail
  go_ret
  exact ⟨HF.out.1, Or.inl ⟨HF.out.2, rfl⟩⟩
def RPourOut (hb mb wb : Nat) (l Wl : Bxs) (nx : Int) (C : Nat → Bxd) (T : Nm) (w : World) (e : Ending) (w' : World) : Prop :=
 (30 < l.length + (lackB l T ++ [T]).length ∧ e = .returned (.int .i64 12) ∧ Below w.heap.size w w') ∨
 (l.length + (lackB l T ++ [T]).length ≤ 30 ∧ e = .returned (.int .i64 0) ∧ Tn (DS hb mb wb l) w w' ∧ ∃ ps ib tb, Made w.heap.size (lackB l T ++ [T]) ps ∧ (inboxN, ib) ∈ l ∧ (T, tb) ∈ putAll l ps ∧ (T, tb) ∈ ps ∧
  RSt w' hb mb wb (putAll l ps) Wl (nx + ((lackB l T ++ [T]).length : Int)) (setC (setC (withNew w.heap.size nx ps C) tb ⟨(withNew w.heap.size nx ps C tb).v, (C ib).n, (C ib).ls⟩) ib ⟨(C ib).v, (C ib).n, []⟩))
theorem rren_inbox (hb mb wb : Nat) (l Wl : Bxs) (nx : Int) (C : Nat → Bxd) (s u : ByteArray) (T : Nm) (w : World) (hE : NEnv w) (h : RSt w hb mb wb l Wl nx C) (hs : s.size ≤ 1000) (hu : u.size ≤ 1000) (hl : l.length ≤ 30) (hn : 0 ≤ nx ∧ nx ≤ 900000)
  (e1 : nameB s.data.toList = some inboxN) (e2 : hasB l inboxN = true) (e3 : nameB u.data.toList = some T) (e4 : hasB l T = false) :
  Calls Tryz.prog 45 #[.pointer (some ⟨hb, 0, none⟩), .string s, .string u] w fun e w' => RPourOut hb mb wb l Wl nx C T w e w' := by
 have cG := rget_is hb mb wb l nx s w hE h.rhs hs
 have HH : Hid (RSt w hb mb wb l Wl nx C ∧ NEnv w ∧ nameB s.data.toList = some inboxN ∧ hasB l inboxN = true ∧ nameB u.data.toList = some T ∧ hasB l T = false) := ⟨h, hE, e1, e2, e3, e4⟩
 clear hE h e1 e2 e3 e4
 go_enter Tryz.func45, Tryz.ntmps45
 go_wp2_with fail
 refine cG.mono ?_
 rintro e w1 ⟨hb1, ⟨r, ib, hr, hm, rfl⟩ | ⟨r, hr, hno, rfl⟩ | ⟨hr, rfl⟩⟩
 ·have hrI : r.data.toList = inboxN := by rw [HH.out.2.2.1] at hr; exact (Option.some.inj hr).symm
  have cN1 := rname_is s w1 (HH.out.2.1.below hb1) hs
  have HR : Hid (Below w.heap.size w w1 ∧ (inboxN, ib) ∈ l) := ⟨hb1, by rw [← hrI]; exact hm⟩
  clear cG hb1 hr hm hrI
  go_wp2_with fail
  refine cN1.mono ?_
  rintro e w2 ⟨hb2, ⟨r2, hr2, hr3, rfl⟩ | ⟨hr2, rfl⟩⟩
  ·have hB2 : Below w.heap.size w w2 := HR.out.1.trans (hb2.mono HR.out.1.size)
   have hr2I : r2.data.toList = inboxN := by rw [HH.out.2.2.1] at hr2; exact (Option.some.inj hr2).symm
   have hEI : r2.toList = [73, 78, 66, 79, 88] := by rw [Lib.toList_data]; exact hr2I
   have cN2 := rname_is u w2 (HH.out.2.1.below hB2) hu
   have HB2 : Hid (Below w.heap.size w w2) := hB2
   clear cN1 hb2 hr2 hB2 hr2I
   go_wp2_with fail
   refine cN2.mono ?_
   rintro e w3 ⟨hb3, ⟨q, hq, hq2, rfl⟩ | ⟨hq, rfl⟩⟩
   ·have hqT : q.data.toList = T := by rw [HH.out.2.2.2.2.1] at hq; exact (Option.some.inj hq).symm
    have hB3 : Below w.heap.size w w3 := HB2.out.trans (hb3.mono HB2.out.size)
    have h3 := HH.out.1.below hB3
    have c0 := h3.rhs.cell.1
    have hlk := rmp_none h3.rhs.2 q (by omega) (by rw [hqT]; exact HH.out.2.2.2.2.2)
    have hid : nameB q.data.toList = some T := by rw [hqT]; exact nameB_idem HH.out.2.2.2.2.1
    have cC := rcreate_is hb mb wb l nx q w3 (HH.out.2.1.below hB3) h3.rhs (by omega) hl hn
    have HB3 : Hid (Below w.heap.size w w3 ∧ RSt w3 hb mb wb l Wl nx C ∧ nameB q.data.toList = some T ∧ q.data.toList = T ∧ q.size ≤ 1000) := ⟨hB3, h3, hid, hqT, by omega⟩
    clear cN2 hb3 hq hB3 h3 hid hqT
    go_wp2_with fail
    refine cC.mono ?_
    rintro e w4 (⟨k1, _, _⟩ | ⟨T', k1, k2, _, _⟩ | ⟨T', k1, k2, k3, rfl, k4⟩ | ⟨T', ps, k1, k2, k3, rfl, k4, k5, k6⟩)
    ·rw [HB3.out.2.2.1] at k1; cases k1
    ·rw [HB3.out.2.2.1] at k1
     obtain rfl := Option.some.inj k1
     rw [HH.out.2.2.2.2.2] at k2; cases k2
    ·rw [HB3.out.2.2.1] at k1
     obtain rfl := Option.some.inj k1
     have HF : Hid (30 < l.length + (lackB l T ++ [T]).length ∧ Below w.heap.size w w4) := ⟨k3, HB3.out.1.trans (k4.mono HB3.out.1.size)⟩
     clear cC k1 k2 k3 k4 hlk c0
     go_wp2_with fail
     go_ret
     exact Or.inl ⟨HF.out.1, rfl, HF.out.2⟩
    ·rw [HB3.out.2.2.1] at k1
     obtain rfl := Option.some.inj k1
     have S4 := HB3.out.2.1.hk k4 k6 (HB3.out.2.1.built k4 k5)
     obtain ⟨tb, htb⟩ : ∃ tb, (T, tb) ∈ ps := by
      have : T ∈ ps.map Prod.fst := by rw [k5.1]; exact List.mem_append_right _ (List.mem_singleton.2 rfl)
      obtain ⟨p, hp, rfl⟩ := List.mem_map.1 this
      exact ⟨p.2, hp⟩
     have hpin : (T, tb) ∈ putAll l ps := built_in HB3.out.2.1.rhs.2.sorted k5.1 (fun n hn => lackT_new HH.out.2.2.2.2.2 hn) (lackT_nodup l T) htb
     have hiin : (inboxN, ib) ∈ putAll l ps := old_in HB3.out.2.1.rhs.2.sorted k5.1 (fun n hn => lackT_new HH.out.2.2.2.2.2 hn) (lackT_nodup l T) HR.out.2
     obtain ⟨jt, hjt⟩ := List.getElem?_of_mem htb
     have htlow := (k5.2.1 jt _ hjt).1
     have hilow := HB3.out.2.1.old _ HR.out.2
     have hne : tb ≠ ib := by
      have htlow : w3.heap.size ≤ tb := htlow
      have hilow : ib < w3.heap.size := hilow
      omega
     have hTC := made_new (C := C) (nx := nx) k5.made hjt
     have hTC : withNew w3.heap.size nx ps C tb = ⟨nx + (jt : Int), 1, []⟩ := hTC
     have hIC : withNew w3.heap.size nx ps C ib = C ib := withNew_old hilow
     obtain ⟨CT, hCT⟩ : ∃ x, withNew w3.heap.size nx ps C = x := ⟨_, rfl⟩
     rw [hCT] at S4 hTC hIC
     have c4 := S4.rhs.cell.1
     obtain ⟨WD, hWD⟩ : ∃ W, w4.drew = W := ⟨_, rfl⟩
     have bD : Below w4.heap.size w4 WD := by rw [← hWD]; exact (Below.refl _ _).drew
     have SD := S4.below bD
     obtain ⟨lvT, hT⟩ := SD.bx _ hpin
     obtain ⟨lv, hI⟩ := SD.bx _ hiin
     obtain ⟨⟨iv, inn, il⟩, hCI⟩ : ∃ x, C ib = x := ⟨_, rfl⟩
     have hT : RBox WD tb (CT tb).v (CT tb).n lvT (CT tb).ls := hT
     have hI : RBox WD ib (CT ib).v (CT ib).n lv (CT ib).ls := hI
     rw [hTC] at hT
     rw [hIC, hCI] at hI
     have hT : RBox WD tb (nx + (jt : Int)) 1 lvT [] := hT
     have hI : RBox WD ib iv inn lv il := hI
     obtain ⟨TV, hTV⟩ : ∃ z, nx + (jt : Int) = z := ⟨_, rfl⟩
     rw [hTV] at hT hTC
     obtain ⟨ta, tc, rfl, _⟩ := id hT.2
     obtain ⟨la, lc, rfl, _⟩ := id hI.2
     obtain ⟨ln, hln⟩ : ∃ n, il.length = n := ⟨_, rfl⟩
     rw [hln] at hI
     have eT := hT.1
     have eI := hI.1
     -- the three stores
     have eT1 := rd_set (i := 1) (.int .i64 inn) eT
     have eT2 := rd_set (i := 2) (.slice la ln lc) eT1
     have bA : But WD.heap.size tb WD ((WD.setCell ⟨tb, 1, none⟩ (.int .i64 inn)).setCell ⟨tb, 2, none⟩ (.slice la ln lc)) := ((to_but (Below.refl _ _)).setB 1 _).setB 2 _
     have eI2 := (bA.block ib (Array.getElem?_eq_some_iff.1 eI).1 hne.symm).trans eI
     have eI1 : (WD.setCell ⟨tb, 1, none⟩ (.int .i64 inn)).heap[ib]? = _ := (Below.heap_setCell _ _ _ _ hne.symm).trans eI
     have eI3 := rd_set (i := 2) (.slice none 0 0) eI2
     have hDk := rhs_kind SD.rhs eT (by decide)
     have hDi := rhs_kind SD.rhs eI (by decide)
     have x0 := SD.rhs.cell.1
     have c5 : w4.cell? ⟨ib, 1, none⟩ = some (.int .i64 inn) := by
      have h1 : w4.heap[ib]? = WD.heap[ib]? := by rw [← hWD]; rfl
      exact (World.cell?_of_block (a := ⟨ib, 1, none⟩) h1).trans (rd_cell eI rfl)
     have x1 : WD.cell? ⟨ib, 1, none⟩ = some (.int .i64 inn) := rd_cell eI rfl
     have x2 : WD.cell? ⟨ib, 2, none⟩ = some (.slice la ln lc) := rd_cell eI rfl
     have x3 : WD.cell? ⟨tb, 1, none⟩ = some (.int .i64 1) := rd_cell eT rfl
     have x4 : WD.frozen? ⟨tb, 1, none⟩ = false := rd_free eT 1
     have y0 : (WD.setCell ⟨tb, 1, none⟩ (.int .i64 inn)).cell? ⟨tb, 2, none⟩ = some (.slice ta 0 tc) := rd_cell eT1 rfl
     have y1 : (WD.setCell ⟨tb, 1, none⟩ (.int .i64 inn)).frozen? ⟨tb, 2, none⟩ = false := rd_free eT1 2
     have y2 : (WD.setCell ⟨tb, 1, none⟩ (.int .i64 inn)).cell? ⟨hb, 0, none⟩ = some (.map (some mb)) := by
      have : (WD.setCell ⟨tb, 1, none⟩ (.int .i64 inn)).heap[hb]? = WD.heap[hb]? := Below.heap_setCell _ _ _ _ hDk.1.symm
      exact (World.cell?_of_block (a := ⟨hb, 0, none⟩) this).trans x0
     have y3 : (WD.setCell ⟨tb, 1, none⟩ (.int .i64 inn)).cell? ⟨ib, 1, none⟩ = some (.int .i64 inn) := rd_cell eI1 rfl
     have z0 : ((WD.setCell ⟨tb, 1, none⟩ (.int .i64 inn)).setCell ⟨tb, 2, none⟩ (.slice la ln lc)).cell? ⟨ib, 2, none⟩ = some (.slice la ln lc) := rd_cell eI2 rfl
     have z1 : ((WD.setCell ⟨tb, 1, none⟩ (.int .i64 inn)).setCell ⟨tb, 2, none⟩ (.slice la ln lc)).frozen? ⟨ib, 2, none⟩ = false := rd_free eI2 2
     have z2 : ((WD.setCell ⟨tb, 1, none⟩ (.int .i64 inn)).setCell ⟨tb, 2, none⟩ (.slice la ln lc)).cell? ⟨hb, 0, none⟩ = some (.map (some mb)) := (bA.cell (p := ⟨hb, 0, none⟩) SD.rhs.lt hDk.1.symm).trans x0
     have z3 : ((WD.setCell ⟨tb, 1, none⟩ (.int .i64 inn)).setCell ⟨tb, 2, none⟩ (.slice la ln lc)).cell? ⟨ib, 1, none⟩ = some (.int .i64 inn) := rd_cell eI2 rfl
     have bF : But WD.heap.size ib ((WD.setCell ⟨tb, 1, none⟩ (.int .i64 inn)).setCell ⟨tb, 2, none⟩ (.slice la ln lc)) (((WD.setCell ⟨tb, 1, none⟩ (.int .i64 inn)).setCell ⟨tb, 2, none⟩ (.slice la ln lc)).setCell ⟨ib, 2, none⟩ (.slice none 0 0)) := (to_but (Below.refl _ _)).setB 2 _
     have v0 : (((WD.setCell ⟨tb, 1, none⟩ (.int .i64 inn)).setCell ⟨tb, 2, none⟩ (.slice la ln lc)).setCell ⟨ib, 2, none⟩ (.slice none 0 0)).cell? ⟨hb, 0, none⟩ = some (.map (some mb)) := (bF.cell (p := ⟨hb, 0, none⟩) SD.rhs.lt hDi.1.symm).trans z2
     have v1 : (((WD.setCell ⟨tb, 1, none⟩ (.int .i64 inn)).setCell ⟨tb, 2, none⟩ (.slice la ln lc)).setCell ⟨ib, 2, none⟩ (.slice none 0 0)).cell? ⟨ib, 1, none⟩ = some (.int .i64 inn) := rd_cell eI3 rfl
     have hlT : (Instr.lookup 85 (.map (some mb)) (.string q) false).run Tryz.prog WD = .ok (.pointer (some ⟨tb, 0, none⟩)) WD := rmp_look SD.rhs.2 q (by have := HB3.out.2.2.2.2; omega) (b := tb) (by rw [HB3.out.2.2.2.1]; exact hpin)
     have HFIN : Hid (RPourOut hb mb wb l Wl nx C T w (.returned (.int .i64 0)) (((WD.setCell ⟨tb, 1, none⟩ (.int .i64 inn)).setCell ⟨tb, 2, none⟩ (.slice la ln lc)).setCell ⟨ib, 2, none⟩ (.slice none 0 0))) := by
      have hz3 := HB3.out.1.size
      have LI : Lts WD (.slice la ln lc) il := by rw [← hln]; rw [← hln] at hI; exact hI.2
      have bA' := bA
      have s1 := SD.boxed (x := ⟨TV, inn, il⟩) hpin (⟨by simpa using eT2, LI.tx (TxKeep.rbut hT bA)⟩ : RBox _ tb TV inn (.slice la ln lc) il) bA
      have hI1 : RBox ((WD.setCell ⟨tb, 1, none⟩ (.int .i64 inn)).setCell ⟨tb, 2, none⟩ (.slice la ln lc)) ib iv inn (.slice la ln lc) il := ⟨eI2, LI.tx (TxKeep.rbut hT bA)⟩
      have bF' : But ((WD.setCell ⟨tb, 1, none⟩ (.int .i64 inn)).setCell ⟨tb, 2, none⟩ (.slice la ln lc)).heap.size ib ((WD.setCell ⟨tb, 1, none⟩ (.int .i64 inn)).setCell ⟨tb, 2, none⟩ (.slice la ln lc)) (((WD.setCell ⟨tb, 1, none⟩ (.int .i64 inn)).setCell ⟨tb, 2, none⟩ (.slice la ln lc)).setCell ⟨ib, 2, none⟩ (.slice none 0 0)) := (to_but (Below.refl _ _)).setB 2 _
      have s2 := s1.boxed (x := ⟨iv, inn, []⟩) hiin (⟨by simpa using eI3, Lts.nil _⟩ : RBox _ ib iv inn (.slice none 0 0) []) bF'
      have hps : Made w.heap.size (lackB l T ++ [T]) ps := ⟨k5.1, fun j p hj => Nat.le_trans hz3 (k5.2.1 j p hj).1, k5.2.2⟩
      have hWN : withNew w.heap.size nx ps C = fun b => if b < w.heap.size then C b else withNew w3.heap.size nx ps (fun c => withNew w.heap.size nx ps C c) b := by
       funext b
       by_cases hbw : b < w.heap.size
       ·rw [withNew_old hbw, if_pos hbw]
       ·rw [if_neg hbw]
        by_cases hb3 : b < w3.heap.size
        ·rw [withNew_old hb3]
        ·unfold withNew
         rw [if_neg hbw, if_neg hb3]
      have hsame : ∀ p ∈ putAll l ps, withNew w.heap.size nx ps C p.2 = CT p.2 := fun p hp => by
       rw [← hCT]
       rcases mem_putAll ps l HB3.out.2.1.rhs.2.sorted hp with h1 | h1
       ·rw [withNew_old (HH.out.1.old p h1), withNew_old (HB3.out.2.1.old p h1)]
       ·obtain ⟨j, hj⟩ := List.getElem?_of_mem h1
        rw [made_new hps hj, made_new k5.made hj]
      refine Or.inr ⟨k3, rfl, ?_, ps, ib, tb, hps, HR.out.2, hpin, htb, ?_⟩
      ·have t1 : Tn (DS hb mb wb l) w w3 := Tn.of HB3.out.1
       have t2 : Tn (DS hb mb wb l) w3 w4 := Tn.hk k4 (Or.inl rfl) (Or.inr (Or.inl rfl))
       have t3 : Tn (DS hb mb wb l) w WD := (t1.trans t2).trans (Tn.of bD)
       have htw : w.heap.size ≤ tb := by have : w3.heap.size ≤ tb := htlow; omega
       have t4 := t3.butN bA (Or.inr htw)
       exact t4.butN bF' (Or.inl (Or.inr (Or.inr (Or.inr ⟨_, HR.out.2, rfl⟩))))
      ·refine ⟨s2.rhs, s2.wm, s2.one, fun p hp => ?_, s2.ne⟩
       have h9 := s2.bx p hp
       have h8 : setC (setC (withNew w.heap.size nx ps C) tb ⟨(withNew w.heap.size nx ps C tb).v, (C ib).n, (C ib).ls⟩) ib ⟨(C ib).v, (C ib).n, []⟩ p.2 = setC (setC CT tb ⟨TV, inn, il⟩) ib ⟨iv, inn, []⟩ p.2 := by
        have h7 := hsame _ hpin
        have h7 : withNew w.heap.size nx ps C tb = CT tb := h7
        rw [hCI, h7, hTC]
        by_cases g1 : p.2 = ib
        ·rw [g1, setC_same, setC_same]
        ·rw [setC_other g1, setC_other g1]
         by_cases g2 : p.2 = tb
         ·rw [g2, setC_same, setC_same]
         ·rw [setC_other g2, setC_other g2]
          exact hsame p hp
       rw [h8]
       exact h9
     clear cC k1 k2 k3 k4 k5 k6 S4 htb hpin hiin hjt htlow hilow hTC hIC hCT bD SD hT hI hCI hTV hln eT eI eT1 eT2 bA eI2 eI1 eI3 hDk hDi bF hlk c0
     go_upto_region 14 with fail
     refine wp_region_held_drew (S := fun W => W.cell? ⟨hb, 0, none⟩ = some (.map (some mb)) ∧ W.cell? ⟨ib, 1, none⟩ = some (.int .i64 inn)) (by kernel_rfl) ?_ (fun hHeld => ?_)
     ·exact ⟨by simpa using c4, by simpa using c5⟩
     rw [hWD] at hHeld ⊢
     refine wpAnyH_take (i := 0) (v := ?_) rfl (by kernel_rfl) (by kernel_rfl) (by kernel_rfl) (fun _ _ _ h => h) (Or.inl ⟨by rfl, ?_⟩) (by assumption) ?_
     rotate_left
     ·intro w hSw; go_simp; (try with_reducible rfl)
     change wpAnyH _ _ _ _ _ _ _ (Act.put _ (some 57) _) _; simp only [Act.put, List.setIfInBounds_toArray, List.set_cons_zero, List.set_cons_succ]
     refine wpAnyH_take (i := 1) (v := ?_) rfl (by kernel_rfl) (by kernel_rfl) (by kernel_rfl) (fun _ _ _ h => h) (Or.inl ⟨by rfl, ?_⟩) (by assumption) ?_
     rotate_left
     ·intro w hSw; go_simp; (try with_reducible rfl)
     change wpAnyH _ _ _ _ _ _ _ (Act.put _ (some 58) _) _; simp only [Act.put, List.setIfInBounds_toArray, List.set_cons_zero, List.set_cons_succ]
     refine wpAnyH_take (i := 2) (v := ?_) rfl (by kernel_rfl) (by kernel_rfl) (by kernel_rfl) (fun _ _ _ h => h) (Or.inl ⟨by rfl, ?_⟩) (by assumption) ?_
     rotate_left
     ·intro w hSw; go_simp; (try with_reducible rfl)
     change wpAnyH _ _ _ _ _ _ _ (Act.put _ (some 59) _) _; simp only [Act.put, List.setIfInBounds_toArray, List.set_cons_zero, List.set_cons_succ]
     refine wpAnyH_take (i := 3) (v := ?_) rfl (by kernel_rfl) (by kernel_rfl) (by kernel_rfl) (fun _ _ _ h => h) (Or.inl ⟨by rfl, ?_⟩) (by assumption) ?_
     rotate_left
     ·intro w hSw; go_simp; (try with_reducible rfl)
     change wpAnyH _ _ _ _ _ _ _ (Act.put _ (some 60) _) _; simp only [Act.put, List.setIfInBounds_toArray, List.set_cons_zero, List.set_cons_succ]
     refine wpAnyH_take (i := 4) (v := ?_) rfl (by kernel_rfl) (by kernel_rfl) (by kernel_rfl) (fun _ _ _ h => h) (Or.inl ⟨by rfl, ?_⟩) (by assumption) ?_
     rotate_left
     ·intro w hSw; go_simp; (try with_reducible rfl)
     change wpAnyH _ _ _ _ _ _ _ (Act.put _ (some 61) _) _; simp only [Act.put, List.setIfInBounds_toArray, List.set_cons_zero, List.set_cons_succ]
     refine wpAnyH_take (i := 6) (v := ?_) rfl (by kernel_rfl) (by kernel_rfl) (by kernel_rfl) (fun _ _ _ h => h) (Or.inl ⟨by rfl, ?_⟩) (by assumption) ?_
     rotate_left
     ·intro w hSw; go_simp; (try with_reducible rfl)
     change wpAnyH _ _ _ _ _ _ _ (Act.put _ (some 63) _) _; simp only [Act.put, List.setIfInBounds_toArray, List.set_cons_zero, List.set_cons_succ]
     refine wpAnyH_take (i := 7) (v := ?_) rfl (by kernel_rfl) (by kernel_rfl) (by kernel_rfl) (fun _ _ _ h => h) (Or.inl ⟨by rfl, ?_⟩) (by assumption) ?_
     rotate_left
     ·intro w hSw; go_simp; (try with_reducible rfl)
     change wpAnyH _ _ _ _ _ _ _ (Act.put _ (some 64) _) _; simp only [Act.put, List.setIfInBounds_toArray, List.set_cons_zero, List.set_cons_succ]
     refine wpAnyH_take (i := 8) (v := ?_) rfl (by kernel_rfl) (by kernel_rfl) (by kernel_rfl) (fun _ _ _ h => h) (Or.inl ⟨by rfl, ?_⟩) (by assumption) ?_
     rotate_left
     ·intro w hSw; go_simp; (try with_reducible rfl)
     change wpAnyH _ _ _ _ _ _ _ (Act.put _ (some 65) _) _; simp only [Act.put, List.setIfInBounds_toArray, List.set_cons_zero, List.set_cons_succ]
     refine wpAnyH_take (i := 9) (v := ?_) rfl (by kernel_rfl) (by kernel_rfl) (by kernel_rfl) (fun _ _ _ h => h) (Or.inl ⟨by rfl, ?_⟩) (by assumption) ?_
     rotate_left
     ·intro w hSw; go_simp; (try with_reducible rfl)
     change wpAnyH _ _ _ _ _ _ _ (Act.put _ (some 66) _) _; simp only [Act.put, List.setIfInBounds_toArray, List.set_cons_zero, List.set_cons_succ]
     refine wpAnyH_take (i := 10) (v := ?_) rfl (by kernel_rfl) (by kernel_rfl) (by kernel_rfl) (fun _ _ _ h => h) (Or.inl ⟨by rfl, ?_⟩) (by assumption) ?_
     rotate_left
     ·intro w hSw; go_simp; (try with_reducible rfl)
     change wpAnyH _ _ _ _ _ _ _ (Act.put _ (some 67) _) _; simp only [Act.put, List.setIfInBounds_toArray, List.set_cons_zero, List.set_cons_succ]
     refine wpAnyH_take (i := 12) (v := ?_) rfl (by kernel_rfl) (by kernel_rfl) (by kernel_rfl) (fun _ _ _ h => h) (Or.inl ⟨by rfl, ?_⟩) (by assumption) ?_
     rotate_left
     ·intro w hSw; go_simp; (try with_reducible rfl)
     change wpAnyH _ _ _ _ _ _ _ (Act.put _ (some 69) _) _; simp only [Act.put, List.setIfInBounds_toArray, List.set_cons_zero, List.set_cons_succ]
     refine wpAnyH_take (i := 13) (v := ?_) rfl (by kernel_rfl) (by kernel_rfl) (by kernel_rfl) (fun _ _ _ h => h) (Or.inl ⟨by rfl, ?_⟩) (by assumption) ?_
     rotate_left
     ·intro w hSw; go_simp; (try with_reducible rfl)
     change wpAnyH _ _ _ _ _ _ _ (Act.put _ (some 70) _) _; simp only [Act.put, List.setIfInBounds_toArray, List.set_cons_zero, List.set_cons_succ]
     refine wpAnyH_take (i := 14) (v := ?_) rfl (by kernel_rfl) (by kernel_rfl) (by kernel_rfl) (fun _ _ _ h => h) (Or.inl ⟨by rfl, ?_⟩) (by assumption) ?_
     rotate_left
     ·intro w hSw; go_simp; (try with_reducible rfl)
     change wpAnyH _ _ _ _ _ _ _ (Act.put _ (some 71) _) _; simp only [Act.put, List.setIfInBounds_toArray, List.set_cons_zero, List.set_cons_succ]
     refine wpAnyH_take (i := 15) (v := ?_) rfl (by kernel_rfl) (by kernel_rfl) (by kernel_rfl) (fun _ _ _ h => h) (Or.inl ⟨by rfl, ?_⟩) (by assumption) ?_
     rotate_left
     ·intro w hSw; go_simp; (try with_reducible rfl)
     change wpAnyH _ _ _ _ _ _ _ (Act.put _ (some 72) _) _; simp only [Act.put, List.setIfInBounds_toArray, List.set_cons_zero, List.set_cons_succ]
     refine wpAnyH_take (i := 16) (v := ?_) rfl (by kernel_rfl) (by kernel_rfl) (by kernel_rfl) (fun _ _ _ h => h) (Or.inl ⟨by rfl, ?_⟩) (by assumption) ?_
     rotate_left
     ·intro w hSw; go_simp; (try with_reducible rfl)
     change wpAnyH _ _ _ _ _ _ _ (Act.put _ (some 73) _) _; simp only [Act.put, List.setIfInBounds_toArray, List.set_cons_zero, List.set_cons_succ]
     refine wpAnyH_take (i := 17) (v := ?_) rfl (by kernel_rfl) (by kernel_rfl) (by kernel_rfl) (fun _ _ _ h => h) (Or.inl ⟨by rfl, ?_⟩) (by assumption) ?_
     rotate_left
     ·intro w hSw; go_simp; (try with_reducible rfl)
     change wpAnyH _ _ _ _ _ _ _ (Act.put _ (some 74) _) _; simp only [Act.put, List.setIfInBounds_toArray, List.set_cons_zero, List.set_cons_succ]
     refine wpAnyH_take (i := 18) (v := ?_) rfl (by kernel_rfl) (by kernel_rfl) (by kernel_rfl) (fun _ _ _ h => h) (Or.inl ⟨by rfl, ?_⟩) (by assumption) ?_
     rotate_left
     ·intro w hSw; go_simp; (try with_reducible rfl)
     change wpAnyH _ _ _ _ _ _ _ (Act.put _ (some 75) _) _; simp only [Act.put, List.setIfInBounds_toArray, List.set_cons_zero, List.set_cons_succ]
     refine wpAnyH_take (i := 19) (v := ?_) rfl (by kernel_rfl) (by kernel_rfl) (by kernel_rfl) (fun _ _ _ h => h) (Or.inl ⟨by rfl, ?_⟩) (by assumption) ?_
     rotate_left
     ·intro w hSw; go_simp; (try with_reducible rfl)
     change wpAnyH _ _ _ _ _ _ _ (Act.put _ (some 76) _) _; simp only [Act.put, List.setIfInBounds_toArray, List.set_cons_zero, List.set_cons_succ]
     refine wpAnyH_ready (rs := [5, 11, 20]) (by kernel_rfl) (by simp) ?_
     refine AllReadyH.cons rfl (fun K hK => ?_) ?_
     ·go_simp
      refine hK.out _ _ ?_ (fun hHeld => ?_)
      ·exact hHeld
      clear hK K
      refine wpAnyH_ready (rs := [11, 20]) (by kernel_rfl) (by simp) ?_
      refine AllReadyH.cons rfl (fun K hK => ?_) ?_
      ·go_simp
       refine hK.out _ _ ?_ (fun hHeld => ?_)
       ·exact hHeld
       clear hK K
       refine wpAnyH_ready (rs := [20]) (by kernel_rfl) (by simp) ?_
       refine AllReadyH.cons rfl (fun K hK => ?_) AllReadyH.nil
       go_simp
       refine hK.out _ _ ?_ (fun hHeld => ?_)
       ·exact hHeld
       clear hK K
       refine wpAnyH_take (i := 21) (v := ?_) rfl (by kernel_rfl) (by kernel_rfl) (by kernel_rfl) (fun _ _ _ h => h) (Or.inl ⟨by rfl, ?_⟩) (by assumption) ?_
       rotate_left
       ·intro w hSw; go_simp; (try with_reducible rfl)
       change wpAnyH _ _ _ _ _ _ _ (Act.put _ (some 78) _) _; simp only [Act.put, List.setIfInBounds_toArray, List.set_cons_zero, List.set_cons_succ]
       refine wpAnyH_take (i := 22) (v := ?_) rfl (by kernel_rfl) (by kernel_rfl) (by kernel_rfl) (fun _ _ _ h => h) (Or.inl ⟨by rfl, ?_⟩) (by assumption) ?_
       rotate_left
       ·intro w hSw; go_simp; (try with_reducible rfl)
       change wpAnyH _ _ _ _ _ _ _ (Act.put _ (some 79) _) _; simp only [Act.put, List.setIfInBounds_toArray, List.set_cons_zero, List.set_cons_succ]
       refine wpAnyH_ready (rs := [23]) (by kernel_rfl) (by simp) ?_
       refine AllReadyH.cons rfl (fun K hK => ?_) AllReadyH.nil
       go_simp
       refine hK.out _ _ ?_ (fun hHeld => ?_)
       ·exact ⟨y2, y3⟩
       clear hK K
       refine wpAnyH_take (i := 24) (v := ?_) rfl (by kernel_rfl) (by kernel_rfl) (by kernel_rfl) (fun _ _ _ h => h) (Or.inl ⟨by rfl, ?_⟩) (by assumption) ?_
       rotate_left
       ·intro w hSw; go_simp; (try with_reducible rfl)
       change wpAnyH _ _ _ _ _ _ _ (Act.put _ (some 80) _) _; simp only [Act.put, List.setIfInBounds_toArray, List.set_cons_zero, List.set_cons_succ]
       refine wpAnyH_take (i := 25) (v := ?_) rfl (by kernel_rfl) (by kernel_rfl) (by kernel_rfl) (fun _ _ _ h => h) (Or.inl ⟨by rfl, ?_⟩) (by assumption) ?_
       rotate_left
       ·intro w hSw; go_simp; (try with_reducible rfl)
       change wpAnyH _ _ _ _ _ _ _ (Act.put _ (some 81) _) _; simp only [Act.put, List.setIfInBounds_toArray, List.set_cons_zero, List.set_cons_succ]
       refine wpAnyH_ready (rs := [26]) (by kernel_rfl) (by simp) ?_
       refine AllReadyH.cons rfl (fun K hK => ?_) AllReadyH.nil
       go_simp
       refine hK.out _ _ ?_ (fun hHeld => ?_)
       ·exact ⟨z2, z3⟩
       clear hK K
       refine wpAnyH_take (i := 27) (v := ?_) rfl (by kernel_rfl) (by kernel_rfl) (by kernel_rfl) (fun _ _ _ h => h) (Or.inl ⟨by rfl, ?_⟩) (by assumption) ?_
       rotate_left
       ·intro w hSw; go_simp; (try with_reducible rfl)
       change wpAnyH _ _ _ _ _ _ _ (Act.put _ (some 82) _) _; simp only [Act.put, List.setIfInBounds_toArray, List.set_cons_zero, List.set_cons_succ]
       refine wpAnyH_take (i := 28) (v := ?_) rfl (by kernel_rfl) (by kernel_rfl) (by kernel_rfl) (fun _ _ _ h => h) (Or.inl ⟨by rfl, ?_⟩) (by assumption) ?_
       rotate_left
       ·intro w hSw; go_simp; (try with_reducible rfl)
       change wpAnyH _ _ _ _ _ _ _ (Act.put _ (some 83) _) _; simp only [Act.put, List.setIfInBounds_toArray, List.set_cons_zero, List.set_cons_succ]
       refine wpAnyH_ready (rs := [29]) (by kernel_rfl) (by simp) ?_
       refine AllReadyH.cons rfl (fun K hK => ?_) AllReadyH.nil
       go_simp
       refine hK.out _ _ ?_ (fun hHeld => ?_)
       ·exact ⟨v0, v1⟩
       clear hK K
       refine wpAnyH_done (by kernel_rfl) ?_ _
       clear hHeld
       go_wp2_with fail
       go_ret
       exact HFIN.out
      refine AllReadyH.cons rfl (fun K hK => ?_) AllReadyH.nil
      go_simp
      refine hK.out _ _ ?_ (fun hHeld => ?_)
      ·exact hHeld
      clear hK K
      refine wpAnyH_ready (rs := [11]) (by kernel_rfl) (by simp) ?_
      refine AllReadyH.cons rfl (fun K hK => ?_) AllReadyH.nil
      go_simp
      refine hK.out _ _ ?_ (fun hHeld => ?_)
      ·exact hHeld
      clear hK K
      refine wpAnyH_take (i := 21) (v := ?_) rfl (by kernel_rfl) (by kernel_rfl) (by kernel_rfl) (fun _ _ _ h => h) (Or.inl ⟨by rfl, ?_⟩) (by assumption) ?_
      rotate_left
      ·intro w hSw; go_simp; (try with_reducible rfl)
      change wpAnyH _ _ _ _ _ _ _ (Act.put _ (some 78) _) _; simp only [Act.put, List.setIfInBounds_toArray, List.set_cons_zero, List.set_cons_succ]
      refine wpAnyH_take (i := 22) (v := ?_) rfl (by kernel_rfl) (by kernel_rfl) (by kernel_rfl) (fun _ _ _ h => h) (Or.inl ⟨by rfl, ?_⟩) (by assumption) ?_
      rotate_left
      ·intro w hSw; go_simp; (try with_reducible rfl)
      change wpAnyH _ _ _ _ _ _ _ (Act.put _ (some 79) _) _; simp only [Act.put, List.setIfInBounds_toArray, List.set_cons_zero, List.set_cons_succ]
      refine wpAnyH_ready (rs := [23]) (by kernel_rfl) (by simp) ?_
      refine AllReadyH.cons rfl (fun K hK => ?_) AllReadyH.nil
      go_simp
      refine hK.out _ _ ?_ (fun hHeld => ?_)
      ·exact ⟨y2, y3⟩
      clear hK K
      refine wpAnyH_take (i := 24) (v := ?_) rfl (by kernel_rfl) (by kernel_rfl) (by kernel_rfl) (fun _ _ _ h => h) (Or.inl ⟨by rfl, ?_⟩) (by assumption) ?_
      rotate_left
      ·intro w hSw; go_simp; (try with_reducible rfl)
      change wpAnyH _ _ _ _ _ _ _ (Act.put _ (some 80) _) _; simp only [Act.put, List.setIfInBounds_toArray, List.set_cons_zero, List.set_cons_succ]
      refine wpAnyH_take (i := 25) (v := ?_) rfl (by kernel_rfl) (by kernel_rfl) (by kernel_rfl) (fun _ _ _ h => h) (Or.inl ⟨by rfl, ?_⟩) (by assumption) ?_
      rotate_left
      ·intro w hSw; go_simp; (try with_reducible rfl)
      change wpAnyH _ _ _ _ _ _ _ (Act.put _ (some 81) _) _; simp only [Act.put, List.setIfInBounds_toArray, List.set_cons_zero, List.set_cons_succ]
      refine wpAnyH_ready (rs := [26]) (by kernel_rfl) (by simp) ?_
      refine AllReadyH.cons rfl (fun K hK => ?_) AllReadyH.nil
      go_simp
      refine hK.out _ _ ?_ (fun hHeld => ?_)
      ·exact ⟨z2, z3⟩
      clear hK K
      refine wpAnyH_take (i := 27) (v := ?_) rfl (by kernel_rfl) (by kernel_rfl) (by kernel_rfl) (fun _ _ _ h => h) (Or.inl ⟨by rfl, ?_⟩) (by assumption) ?_
      rotate_left
      ·intro w hSw; go_simp; (try with_reducible rfl)
      change wpAnyH _ _ _ _ _ _ _ (Act.put _ (some 82) _) _; simp only [Act.put, List.setIfInBounds_toArray, List.set_cons_zero, List.set_cons_succ]
      refine wpAnyH_take (i := 28) (v := ?_) rfl (by kernel_rfl) (by kernel_rfl) (by kernel_rfl) (fun _ _ _ h => h) (Or.inl ⟨by rfl, ?_⟩) (by assumption) ?_
      rotate_left
      ·intro w hSw; go_simp; (try with_reducible rfl)
      change wpAnyH _ _ _ _ _ _ _ (Act.put _ (some 83) _) _; simp only [Act.put, List.setIfInBounds_toArray, List.set_cons_zero, List.set_cons_succ]
      refine wpAnyH_ready (rs := [29]) (by kernel_rfl) (by simp) ?_
      refine AllReadyH.cons rfl (fun K hK => ?_) AllReadyH.nil
      go_simp
      refine hK.out _ _ ?_ (fun hHeld => ?_)
      ·exact ⟨v0, v1⟩
      clear hK K
      refine wpAnyH_done (by kernel_rfl) ?_ _
      clear hHeld
      go_wp2_with fail
      go_ret
      exact HFIN.out
     refine AllReadyH.cons rfl (fun K hK => ?_) ?_
     ·go_simp
      refine hK.out _ _ ?_ (fun hHeld => ?_)
      ·exact hHeld
      clear hK K
      refine wpAnyH_ready (rs := [5, 20]) (by kernel_rfl) (by simp) ?_
      refine AllReadyH.cons rfl (fun K hK => ?_) ?_
      ·go_simp
       refine hK.out _ _ ?_ (fun hHeld => ?_)
       ·exact hHeld
       clear hK K
       refine wpAnyH_ready (rs := [20]) (by kernel_rfl) (by simp) ?_
       refine AllReadyH.cons rfl (fun K hK => ?_) AllReadyH.nil
       go_simp
       refine hK.out _ _ ?_ (fun hHeld => ?_)
       ·exact hHeld
       clear hK K
       refine wpAnyH_take (i := 21) (v := ?_) rfl (by kernel_rfl) (by kernel_rfl) (by kernel_rfl) (fun _ _ _ h => h) (Or.inl ⟨by rfl, ?_⟩) (by assumption) ?_
       rotate_left
       ·intro w hSw; go_simp; (try with_reducible rfl)
       change wpAnyH _ _ _ _ _ _ _ (Act.put _ (some 78) _) _; simp only [Act.put, List.setIfInBounds_toArray, List.set_cons_zero, List.set_cons_succ]
       refine wpAnyH_take (i := 22) (v := ?_) rfl (by kernel_rfl) (by kernel_rfl) (by kernel_rfl) (fun _ _ _ h => h) (Or.inl ⟨by rfl, ?_⟩) (by assumption) ?_
       rotate_left
       ·intro w hSw; go_simp; (try with_reducible rfl)
       change wpAnyH _ _ _ _ _ _ _ (Act.put _ (some 79) _) _; simp only [Act.put, List.setIfInBounds_toArray, List.set_cons_zero, List.set_cons_succ]
       refine wpAnyH_ready (rs := [23]) (by kernel_rfl) (by simp) ?_
       refine AllReadyH.cons rfl (fun K hK => ?_) AllReadyH.nil
       go_simp
       refine hK.out _ _ ?_ (fun hHeld => ?_)
       ·exact ⟨y2, y3⟩
       clear hK K
       refine wpAnyH_take (i := 24) (v := ?_) rfl (by kernel_rfl) (by kernel_rfl) (by kernel_rfl) (fun _ _ _ h => h) (Or.inl ⟨by rfl, ?_⟩) (by assumption) ?_
       rotate_left
       ·intro w hSw; go_simp; (try with_reducible rfl)
       change wpAnyH _ _ _ _ _ _ _ (Act.put _ (some 80) _) _; simp only [Act.put, List.setIfInBounds_toArray, List.set_cons_zero, List.set_cons_succ]
       refine wpAnyH_take (i := 25) (v := ?_) rfl (by kernel_rfl) (by kernel_rfl) (by kernel_rfl) (fun _ _ _ h => h) (Or.inl ⟨by rfl, ?_⟩) (by assumption) ?_
       rotate_left
       ·intro w hSw; go_simp; (try with_reducible rfl)
       change wpAnyH _ _ _ _ _ _ _ (Act.put _ (some 81) _) _; simp only [Act.put, List.setIfInBounds_toArray, List.set_cons_zero, List.set_cons_succ]
       refine wpAnyH_ready (rs := [26]) (by kernel_rfl) (by simp) ?_
       refine AllReadyH.cons rfl (fun K hK => ?_) AllReadyH.nil
       go_simp
       refine hK.out _ _ ?_ (fun hHeld => ?_)
       ·exact ⟨z2, z3⟩
       clear hK K
       refine wpAnyH_take (i := 27) (v := ?_) rfl (by kernel_rfl) (by kernel_rfl) (by kernel_rfl) (fun _ _ _ h => h) (Or.inl ⟨by rfl, ?_⟩) (by assumption) ?_
       rotate_left
       ·intro w hSw; go_simp; (try with_reducible rfl)
       change wpAnyH _ _ _ _ _ _ _ (Act.put _ (some 82) _) _; simp only [Act.put, List.setIfInBounds_toArray, List.set_cons_zero, List.set_cons_succ]
       refine wpAnyH_take (i := 28) (v := ?_) rfl (by kernel_rfl) (by kernel_rfl) (by kernel_rfl) (fun _ _ _ h => h) (Or.inl ⟨by rfl, ?_⟩) (by assumption) ?_
       rotate_left
       ·intro w hSw; go_simp; (try with_reducible rfl)
       change wpAnyH _ _ _ _ _ _ _ (Act.put _ (some 83) _) _; simp only [Act.put, List.setIfInBounds_toArray, List.set_cons_zero, List.set_cons_succ]
       refine wpAnyH_ready (rs := [29]) (by kernel_rfl) (by simp) ?_
       refine AllReadyH.cons rfl (fun K hK => ?_) AllReadyH.nil
       go_simp
       refine hK.out _ _ ?_ (fun hHeld => ?_)
       ·exact ⟨v0, v1⟩
       clear hK K
       refine wpAnyH_done (by kernel_rfl) ?_ _
       clear hHeld
       go_wp2_with fail
       go_ret
       exact HFIN.out
      refine AllReadyH.cons rfl (fun K hK => ?_) AllReadyH.nil
      go_simp
      refine hK.out _ _ ?_ (fun hHeld => ?_)
      ·exact hHeld
      clear hK K
      refine wpAnyH_ready (rs := [5]) (by kernel_rfl) (by simp) ?_
      refine AllReadyH.cons rfl (fun K hK => ?_) AllReadyH.nil
      go_simp
      refine hK.out _ _ ?_ (fun hHeld => ?_)
      ·exact hHeld
      clear hK K
      refine wpAnyH_take (i := 21) (v := ?_) rfl (by kernel_rfl) (by kernel_rfl) (by kernel_rfl) (fun _ _ _ h => h) (Or.inl ⟨by rfl, ?_⟩) (by assumption) ?_
      rotate_left
      ·intro w hSw; go_simp; (try with_reducible rfl)
      change wpAnyH _ _ _ _ _ _ _ (Act.put _ (some 78) _) _; simp only [Act.put, List.setIfInBounds_toArray, List.set_cons_zero, List.set_cons_succ]
      refine wpAnyH_take (i := 22) (v := ?_) rfl (by kernel_rfl) (by kernel_rfl) (by kernel_rfl) (fun _ _ _ h => h) (Or.inl ⟨by rfl, ?_⟩) (by assumption) ?_
      rotate_left
      ·intro w hSw; go_simp; (try with_reducible rfl)
      change wpAnyH _ _ _ _ _ _ _ (Act.put _ (some 79) _) _; simp only [Act.put, List.setIfInBounds_toArray, List.set_cons_zero, List.set_cons_succ]
      refine wpAnyH_ready (rs := [23]) (by kernel_rfl) (by simp) ?_
      refine AllReadyH.cons rfl (fun K hK => ?_) AllReadyH.nil
      go_simp
      refine hK.out _ _ ?_ (fun hHeld => ?_)
      ·exact ⟨y2, y3⟩
      clear hK K
      refine wpAnyH_take (i := 24) (v := ?_) rfl (by kernel_rfl) (by kernel_rfl) (by kernel_rfl) (fun _ _ _ h => h) (Or.inl ⟨by rfl, ?_⟩) (by assumption) ?_
      rotate_left
      ·intro w hSw; go_simp; (try with_reducible rfl)
      change wpAnyH _ _ _ _ _ _ _ (Act.put _ (some 80) _) _; simp only [Act.put, List.setIfInBounds_toArray, List.set_cons_zero, List.set_cons_succ]
      refine wpAnyH_take (i := 25) (v := ?_) rfl (by kernel_rfl) (by kernel_rfl) (by kernel_rfl) (fun _ _ _ h => h) (Or.inl ⟨by rfl, ?_⟩) (by assumption) ?_
      rotate_left
      ·intro w hSw; go_simp; (try with_reducible rfl)
      change wpAnyH _ _ _ _ _ _ _ (Act.put _ (some 81) _) _; simp only [Act.put, List.setIfInBounds_toArray, List.set_cons_zero, List.set_cons_succ]
      refine wpAnyH_ready (rs := [26]) (by kernel_rfl) (by simp) ?_
      refine AllReadyH.cons rfl (fun K hK => ?_) AllReadyH.nil
      go_simp
      refine hK.out _ _ ?_ (fun hHeld => ?_)
      ·exact ⟨z2, z3⟩
      clear hK K
      refine wpAnyH_take (i := 27) (v := ?_) rfl (by kernel_rfl) (by kernel_rfl) (by kernel_rfl) (fun _ _ _ h => h) (Or.inl ⟨by rfl, ?_⟩) (by assumption) ?_
      rotate_left
      ·intro w hSw; go_simp; (try with_reducible rfl)
      change wpAnyH _ _ _ _ _ _ _ (Act.put _ (some 82) _) _; simp only [Act.put, List.setIfInBounds_toArray, List.set_cons_zero, List.set_cons_succ]
      refine wpAnyH_take (i := 28) (v := ?_) rfl (by kernel_rfl) (by kernel_rfl) (by kernel_rfl) (fun _ _ _ h => h) (Or.inl ⟨by rfl, ?_⟩) (by assumption) ?_
      rotate_left
      ·intro w hSw; go_simp; (try with_reducible rfl)
      change wpAnyH _ _ _ _ _ _ _ (Act.put _ (some 83) _) _; simp only [Act.put, List.setIfInBounds_toArray, List.set_cons_zero, List.set_cons_succ]
      refine wpAnyH_ready (rs := [29]) (by kernel_rfl) (by simp) ?_
      refine AllReadyH.cons rfl (fun K hK => ?_) AllReadyH.nil
      go_simp
      refine hK.out _ _ ?_ (fun hHeld => ?_)
      ·exact ⟨v0, v1⟩
      clear hK K
      refine wpAnyH_done (by kernel_rfl) ?_ _
      clear hHeld
      go_wp2_with fail
      go_ret
      exact HFIN.out
     refine AllReadyH.cons rfl (fun K hK => ?_) AllReadyH.nil
     go_simp
     refine hK.out _ _ ?_ (fun hHeld => ?_)
     ·exact hHeld
     clear hK K
     refine wpAnyH_ready (rs := [5, 11]) (by kernel_rfl) (by simp) ?_
     refine AllReadyH.cons rfl (fun K hK => ?_) ?_
     ·go_simp
      refine hK.out _ _ ?_ (fun hHeld => ?_)
      ·exact hHeld
      clear hK K
      refine wpAnyH_ready (rs := [11]) (by kernel_rfl) (by simp) ?_
      refine AllReadyH.cons rfl (fun K hK => ?_) AllReadyH.nil
      go_simp
      refine hK.out _ _ ?_ (fun hHeld => ?_)
      ·exact hHeld
      clear hK K
      refine wpAnyH_take (i := 21) (v := ?_) rfl (by kernel_rfl) (by kernel_rfl) (by kernel_rfl) (fun _ _ _ h => h) (Or.inl ⟨by rfl, ?_⟩) (by assumption) ?_
      rotate_left
      ·intro w hSw; go_simp; (try with_reducible rfl)
      change wpAnyH _ _ _ _ _ _ _ (Act.put _ (some 78) _) _; simp only [Act.put, List.setIfInBounds_toArray, List.set_cons_zero, List.set_cons_succ]
      refine wpAnyH_take (i := 22) (v := ?_) rfl (by kernel_rfl) (by kernel_rfl) (by kernel_rfl) (fun _ _ _ h => h) (Or.inl ⟨by rfl, ?_⟩) (by assumption) ?_
      rotate_left
      ·intro w hSw; go_simp; (try with_reducible rfl)
      change wpAnyH _ _ _ _ _ _ _ (Act.put _ (some 79) _) _; simp only [Act.put, List.setIfInBounds_toArray, List.set_cons_zero, List.set_cons_succ]
      refine wpAnyH_ready (rs := [23]) (by kernel_rfl) (by simp) ?_
      refine AllReadyH.cons rfl (fun K hK => ?_) AllReadyH.nil
      go_simp
      refine hK.out _ _ ?_ (fun hHeld => ?_)
      ·exact ⟨y2, y3⟩
      clear hK K
      refine wpAnyH_take (i := 24) (v := ?_) rfl (by kernel_rfl) (by kernel_rfl) (by kernel_rfl) (fun _ _ _ h => h) (Or.inl ⟨by rfl, ?_⟩) (by assumption) ?_
      rotate_left
      ·intro w hSw; go_simp; (try with_reducible rfl)
      change wpAnyH _ _ _ _ _ _ _ (Act.put _ (some 80) _) _; simp only [Act.put, List.setIfInBounds_toArray, List.set_cons_zero, List.set_cons_succ]
      refine wpAnyH_take (i := 25) (v := ?_) rfl (by kernel_rfl) (by kernel_rfl) (by kernel_rfl) (fun _ _ _ h => h) (Or.inl ⟨by rfl, ?_⟩) (by assumption) ?_
      rotate_left
      ·intro w hSw; go_simp; (try with_reducible rfl)
      change wpAnyH _ _ _ _ _ _ _ (Act.put _ (some 81) _) _; simp only [Act.put, List.setIfInBounds_toArray, List.set_cons_zero, List.set_cons_succ]
      refine wpAnyH_ready (rs := [26]) (by kernel_rfl) (by simp) ?_
      refine AllReadyH.cons rfl (fun K hK => ?_) AllReadyH.nil
      go_simp
      refine hK.out _ _ ?_ (fun hHeld => ?_)
      ·exact ⟨z2, z3⟩
      clear hK K
      refine wpAnyH_take (i := 27) (v := ?_) rfl (by kernel_rfl) (by kernel_rfl) (by kernel_rfl) (fun _ _ _ h => h) (Or.inl ⟨by rfl, ?_⟩) (by assumption) ?_
      rotate_left
      ·intro w hSw; go_simp; (try with_reducible rfl)
      change wpAnyH _ _ _ _ _ _ _ (Act.put _ (some 82) _) _; simp only [Act.put, List.setIfInBounds_toArray, List.set_cons_zero, List.set_cons_succ]
      refine wpAnyH_take (i := 28) (v := ?_) rfl (by kernel_rfl) (by kernel_rfl) (by kernel_rfl) (fun _ _ _ h => h) (Or.inl ⟨by rfl, ?_⟩) (by assumption) ?_
      rotate_left
      ·intro w hSw; go_simp; (try with_reducible rfl)
      change wpAnyH _ _ _ _ _ _ _ (Act.put _ (some 83) _) _; simp only [Act.put, List.setIfInBounds_toArray, List.set_cons_zero, List.set_cons_succ]
      refine wpAnyH_ready (rs := [29]) (by kernel_rfl) (by simp) ?_
      refine AllReadyH.cons rfl (fun K hK => ?_) AllReadyH.nil
      go_simp
      refine hK.out _ _ ?_ (fun hHeld => ?_)
      ·exact ⟨v0, v1⟩
      clear hK K
      refine wpAnyH_done (by kernel_rfl) ?_ _
      clear hHeld
      go_wp2_with fail
      go_ret
      exact HFIN.out
     refine AllReadyH.cons rfl (fun K hK => ?_) AllReadyH.nil
     go_simp
     refine hK.out _ _ ?_ (fun hHeld => ?_)
     ·exact hHeld
     clear hK K
     refine wpAnyH_ready (rs := [5]) (by kernel_rfl) (by simp) ?_
     refine AllReadyH.cons rfl (fun K hK => ?_) AllReadyH.nil
     go_simp
     refine hK.out _ _ ?_ (fun hHeld => ?_)
     ·exact hHeld
     clear hK K
     refine wpAnyH_take (i := 21) (v := ?_) rfl (by kernel_rfl) (by kernel_rfl) (by kernel_rfl) (fun _ _ _ h => h) (Or.inl ⟨by rfl, ?_⟩) (by assumption) ?_
     rotate_left
     ·intro w hSw; go_simp; (try with_reducible rfl)
     change wpAnyH _ _ _ _ _ _ _ (Act.put _ (some 78) _) _; simp only [Act.put, List.setIfInBounds_toArray, List.set_cons_zero, List.set_cons_succ]
     refine wpAnyH_take (i := 22) (v := ?_) rfl (by kernel_rfl) (by kernel_rfl) (by kernel_rfl) (fun _ _ _ h => h) (Or.inl ⟨by rfl, ?_⟩) (by assumption) ?_
     rotate_left
     ·intro w hSw; go_simp; (try with_reducible rfl)
     change wpAnyH _ _ _ _ _ _ _ (Act.put _ (some 79) _) _; simp only [Act.put, List.setIfInBounds_toArray, List.set_cons_zero, List.set_cons_succ]
     refine wpAnyH_ready (rs := [23]) (by kernel_rfl) (by simp) ?_
     refine AllReadyH.cons rfl (fun K hK => ?_) AllReadyH.nil
     go_simp
     refine hK.out _ _ ?_ (fun hHeld => ?_)
     ·exact ⟨y2, y3⟩
     clear hK K
     refine wpAnyH_take (i := 24) (v := ?_) rfl (by kernel_rfl) (by kernel_rfl) (by kernel_rfl) (fun _ _ _ h => h) (Or.inl ⟨by rfl, ?_⟩) (by assumption) ?_
     rotate_left
     ·intro w hSw; go_simp; (try with_reducible rfl)
     change wpAnyH _ _ _ _ _ _ _ (Act.put _ (some 80) _) _; simp only [Act.put, List.setIfInBounds_toArray, List.set_cons_zero, List.set_cons_succ]
     refine wpAnyH_take (i := 25) (v := ?_) rfl (by kernel_rfl) (by kernel_rfl) (by kernel_rfl) (fun _ _ _ h => h) (Or.inl ⟨by rfl, ?_⟩) (by assumption) ?_
     rotate_left
     ·intro w hSw; go_simp; (try with_reducible rfl)
     change wpAnyH _ _ _ _ _ _ _ (Act.put _ (some 81) _) _; simp only [Act.put, List.setIfInBounds_toArray, List.set_cons_zero, List.set_cons_succ]
     refine wpAnyH_ready (rs := [26]) (by kernel_rfl) (by simp) ?_
     refine AllReadyH.cons rfl (fun K hK => ?_) AllReadyH.nil
     go_simp
     refine hK.out _ _ ?_ (fun hHeld => ?_)
     ·exact ⟨z2, z3⟩
     clear hK K
     refine wpAnyH_take (i := 27) (v := ?_) rfl (by kernel_rfl) (by kernel_rfl) (by kernel_rfl) (fun _ _ _ h => h) (Or.inl ⟨by rfl, ?_⟩) (by assumption) ?_
     rotate_left
     ·intro w hSw; go_simp; (try with_reducible rfl)
     change wpAnyH _ _ _ _ _ _ _ (Act.put _ (some 82) _) _; simp only [Act.put, List.setIfInBounds_toArray, List.set_cons_zero, List.set_cons_succ]
     refine wpAnyH_take (i := 28) (v := ?_) rfl (by kernel_rfl) (by kernel_rfl) (by kernel_rfl) (fun _ _ _ h => h) (Or.inl ⟨by rfl, ?_⟩) (by assumption) ?_
     rotate_left
     ·intro w hSw; go_simp; (try with_reducible rfl)
     change wpAnyH _ _ _ _ _ _ _ (Act.put _ (some 83) _) _; simp only [Act.put, List.setIfInBounds_toArray, List.set_cons_zero, List.set_cons_succ]
     refine wpAnyH_ready (rs := [29]) (by kernel_rfl) (by simp) ?_
     refine AllReadyH.cons rfl (fun K hK => ?_) AllReadyH.nil
     go_simp
     refine hK.out _ _ ?_ (fun hHeld => ?_)
     ·exact ⟨v0, v1⟩
     clear hK K
     refine wpAnyH_done (by kernel_rfl) ?_ _
     clear hHeld
     go_wp2_with fail
     go_ret
     exact HFIN.out
   ·rw [HH.out.2.2.2.2.1] at hq
    cases hq
  ·rw [HH.out.2.2.1] at hr2
   cases hr2
 ·rw [HH.out.2.2.1] at hr
  rw [← Option.some.inj hr, HH.out.2.2.2.1] at hno
  cases hno
 ·rw [HH.out.2.2.1] at hr
  cases hr
end Go.Proofs.YtfdlopimncodcaaGreatDoor
