/-
  For every history h and every record r, the law FnExactHistAdd returns true: the program's HistAdd answers as the document's, every field; it writes into no argument; its answer owns its memory; and the arguments read afterwards as before. No condition.
-/
import Derived.Test.YtllpmflkcfnknaaRows
import Derived.Test.YtllpmflkcfnknaaHsLaw
import Derived.Test.YtllpmflkcfnknaaHsMark
import Derived.Test.YtllpmflkcfnknaaHsBox
import Derived.Deep.RegionHeld3
import Derived.Deep.DeepCutAuto
import Derived.Deep.CutBlock
import Derived.WalkKit
import Derived.ProofKit
import Derived.OpenShut
import Derived.ShutString
import Derived.ChangeOld
import Derived.Below
namespace Go.Proofs.Ytllpmflkcfnknaa.fnExactHistAdd
open Go.ChangeShapes Go.WideShapes Go.ChangeAt Go.RowKit
open Go.ChangeMaps (open_string shut_string)
set_option linter.unusedVariables false

theorem own : ownKnob Try.prog.godebug = none := by kernel_rfl
theorem laidOut : laidOutB Try.prog = true := by kernel_rfl

set_option maxHeartbeats 16000000 in
set_option maxRecDepth 100000 in
theorem walk (A0 : Option Addr) (n0 c0 : Nat) (X0 : List Bt.Rc) (r1 : Bt.Rc) (w : World) (w0 : RdRc w w.heap.size A0 n0 X0) (x0 : WideR X0) (w1 : r1.d.size ≤ maxLen) :
    Calls Try.prog 6 #[.agg #[.slice A0 n0 c0], recV r1] w fun e w' => e = .returned (.bool true) ∧ Below w.heap.size w w' := by
  have HA := Lib.hid w0; have HX := Lib.hid x0; clear w0 x0
  unfold maxLen at w1
  go_enter Try.func6, Try.ntmps6
  go_wp2_with fail
  have hb0 : Below w.heap.size w ((w.alloc (.cells #[.slice A0 n0 c0] 55)).alloc (.cells (recC r1).toArray 60)) := ((Below.refl _ _).alloc (Nat.le_refl _) _).alloc (by simp) _
  have k0 := (isBlk_new w 55 [.slice A0 n0 c0]).alloc (.cells (recC r1).toArray 60)
  have k1 := isBlk_new (w.alloc (.cells #[.slice A0 n0 c0] 55)) 60 (recC r1)
  rw [size_alloc] at k1
  change IsBlk ((w.alloc (.cells #[.slice A0 n0 c0] 55)).alloc (.cells (recC r1).toArray 60)) _ _ _ at k0
  change IsBlk ((w.alloc (.cells #[.slice A0 n0 c0] 55)).alloc (.cells (recC r1).toArray 60)) _ _ _ at k1
  change Calls _ _ _ ((w.alloc (.cells #[.slice A0 n0 c0] 55)).alloc (.cells (recC r1).toArray 60)) _
  generalize (w.alloc (.cells #[.slice A0 n0 c0] 55)).alloc (.cells (recC r1).toArray 60) = U0 at hb0 k0 k1 ⊢
  refine (szHist_any A0 n0 c0 X0 1048576 U0 (by omega) (by omega) HX.out (HA.out.next hb0)).mono ?_
  rintro e u1 ⟨rfl, hb1⟩
  have HB1 := Lib.hid (hb0.trans (hb1.mono hb0.size))
  have HK1 := Lib.hid (k0.below hb1 k0.lt)
  have HR1 := Lib.hid (k1.below hb1 k1.lt)
  obtain ⟨r0', r1', r2', r3', r4', r5'⟩ := rcCells HR1.out
  clear hb1 hb0 k0 k1
  by_cases hs : ((szRcs X0 : Nat) : Int) ≤ 1048576
  case neg =>
    have hz := szR_no (t := szRcs X0) (left := 1048576) (by omega)
    go_wp2
    go_ret
    exact ⟨rfl, HB1.out⟩
  have hz := szR_ok hs
  have hnn : 0 ≤ 1048576 - ((szRcs X0 : Nat) : Int) := by omega
  have HSM := Lib.hid (smallR_of_sz (X := X0) (by omega))
  have HL0 := Lib.hid HA.out.1
  have hnl : n0 ≤ 1048576 := by have := HSM.out.1; have := HL0.out; omega
  obtain ⟨lf, hlf⟩ : ∃ lf, lf = 1048576 - ((szRcs X0 : Nat) : Int) := ⟨_, rfl⟩
  rw [← hlf] at hz hnn
  have hlf2 : lf ≤ 1048576 := by omega
  clear hlf
  go_wp2_with fail
  refine (szRec_gen r1 lf u1 hnn hlf2 w1).mono ?_
  rintro e u2 ⟨rfl, hb2⟩
  have HB2 := Lib.hid (HB1.out.trans (hb2.mono HB1.out.size))
  have HK2 := Lib.hid (HK1.out.below hb2 HK1.out.lt)
  have HR2 := Lib.hid (HR1.out.below hb2 HR1.out.lt)
  clear hb2 r0' r1' r2' r3' r4' r5' hz
  by_cases hs2 : ((r1.d.size : Nat) : Int) ≤ lf
  case neg =>
    have hz := szR_no (t := r1.d.size) (left := lf) (by omega)
    go_wp2
    go_ret
    exact ⟨rfl, HB2.out⟩
  have hz := szR_ok hs2
  have hnn2 : 0 ≤ lf - ((r1.d.size : Nat) : Int) := by omega
  have hrd : r1.d.size ≤ 1048576 := by omega
  obtain ⟨R, hR⟩ : ∃ R, R = addList X0 r1 := ⟨_, rfl⟩
  obtain ⟨C, hC⟩ : ∃ C, C = addCode X0 r1 := ⟨_, rfl⟩
  have hRl : R.length ≤ 49 := by rw [hR]; exact addList_len X0 r1
  have HSPEC : Hid (∀ (A : Option Addr) (c : Nat) (W : World), RdRc W W.heap.size A n0 X0 → Calls Try.prog 24 #[.agg #[.slice A n0 c], recV r1] W (RetHO W R C)) := fun A c W h => by rw [hR, hC]; exact spec_histAdd A n0 c X0 r1 W HSM.out hrd h
  have HIMPL : Hid (∀ (A : Option Addr) (c : Nat) (W : World), RdRc W W.heap.size A n0 X0 → Calls Try.prog 18 #[.agg #[.slice A n0 c], recV r1] W (RetHO W R C)) := fun A c W h => by rw [hR, hC]; exact impl_histAdd A n0 c X0 r1 W HSM.out hrd h
  obtain ⟨nR, hnR⟩ : ∃ nR, nR = R.length := ⟨_, rfl⟩
  have HNR := Lib.hid hnR
  obtain ⟨K, hK⟩ : ∃ K, K = 1 + 6 * n0 := ⟨_, rfl⟩
  have HK := Lib.hid hK
  obtain ⟨M, hM⟩ : ∃ M, M = 1 + 6 * nR := ⟨_, rfl⟩
  have HM := Lib.hid hM
  have hnRl : nR ≤ 49 := by omega
  have hKl : K ≤ 6291457 := by omega
  have hMl : M ≤ 1048577 := by omega
  clear hR hC hnR hRl hK hM
  go_wp2
  go_cut [6] (fun v6 wx => ∃ b lo hi A c, v6 = .pointer (some ⟨b, 0, none⟩) ∧ HoBox u2 wx b lo hi A c R C)
  case first =>
    have hlt0 : w.heap.size < u2.heap.size := HK2.out.lt
    have hlt1 : w.heap.size + 1 < u2.heap.size := HR2.out.lt
    have hA2 : RdRc u2 u2.heap.size A0 n0 X0 := HA.out.next HB2.out
    have HA2 := Lib.hid hA2; clear hA2
    go_region_held3 (fun w' => w'.cell? ⟨w.heap.size, 0, none⟩ = some (.slice A0 n0 c0) ∧ w'.cell? ⟨w.heap.size + 1, 0, none⟩ = some (.int .i64 r1.k) ∧ w'.cell? ⟨w.heap.size + 1, 1, none⟩ = some (.int .i64 r1.s) ∧ w'.cell? ⟨w.heap.size + 1, 2, none⟩ = some (.int .i64 r1.q) ∧ w'.cell? ⟨w.heap.size + 1, 3, none⟩ = some (.int .i64 r1.t) ∧
        w'.cell? ⟨w.heap.size + 1, 4, none⟩ = some (.int .i64 r1.o) ∧ w'.cell? ⟨w.heap.size + 1, 5, none⟩ = some (.string r1.d) ∧ Hid (Below u2.heap.size u2 w'))
      (first | exact hsA | exact hsB | exact hsC | exact args_keep HK2.out HR2.out (Below.refl _ _).drew | exact args_keep HK2.out HR2.out ((args_of (by assumption)).alloc (args_of (by assumption)).size _) | exact args_keep HK2.out HR2.out HKY.out.bel)
      (first
        | (go_at_call 47
           refine (toHist_any A0 n0 c0 X0 _ (by omega) (HA2.out.next (args_of (by assumption)))).mono ?_
           rintro e wA ⟨rfl, hoA, hbA⟩
           have hsA := args_keep HK2.out HR2.out ((args_of (by assumption)).trans (hbA.mono (args_of (by assumption)).size))
           have HRDA := Lib.hid (hoA.rd (Nat.le_refl _))
           have HBA := Lib.hid hbA
           have hzA := (args_of hsA).size
           clear hoA hbA)
        | (go_at_call 50
           refine (toRec_any r1 _).mono ?_
           rintro e wB ⟨rfl, hbB⟩
           have hsB := args_keep HK2.out HR2.out ((args_of (by assumption)).trans (hbB.mono (args_of (by assumption)).size))
           have HBB := Lib.hid hbB
           have hzB := (args_of hsB).size
           clear hbB)
        | (go_at_call 24
           refine (HSPEC.out _ n0 _ ?_).mono ?_
           · first
             | exact HRDA.out
             | exact HRDA.out.next (bel_alloc _ _)
             | exact HRDA.out.next HBB.out
             | exact (HRDA.out.next HBB.out).next (bel_alloc _ _)
             | exact (HRDA.out.next (bel_alloc _ _)).next HBB.out
             | simpa using HRDA.out
             | simpa using HRDA.out.next HBB.out
           rintro e wC ⟨Aw, cw, rfl, hoC, hbC⟩
           have hsC := args_keep HK2.out HR2.out ((args_of (by assumption)).trans (hbC.mono (args_of (by assumption)).size))
           first
           | (have kW := isBlk_new wA 31 [.slice none 0 0, .int .i64 0]
              have HKY := Lib.hid (box_first (c := cw) (code := C) (args_of (by assumption)) hzA kW hoC hbC)
              obtain ⟨d0, d1, fd0, fd1⟩ := blk2 (kW.below hbC kW.lt)
              clear kW)
           | (have kW := isBlk_new wB 31 [.slice none 0 0, .int .i64 0]
              have HKY := Lib.hid (box_first (c := cw) (code := C) (args_of (by assumption)) hzB kW hoC hbC)
              obtain ⟨d0, d1, fd0, fd1⟩ := blk2 (kW.below hbC kW.lt)
              clear kW)
           | (have kW := ((show IsBlk (u2.alloc (.cells #[.slice none 0 0, .int .i64 0] 31)).drew u2.heap.size 31 [.slice none 0 0, .int .i64 0] from isBlk_new u2 31 [.slice none 0 0, .int .i64 0]).below HBA.out (by simp)).below HBB.out (by have := HBA.out.size; simp at this; omega)
              have HKY := Lib.hid (box_first (c := cw) (code := C) (args_of (by assumption)) (Nat.le_refl _) kW hoC hbC)
              obtain ⟨d0, d1, fd0, fd1⟩ := blk2 (kW.below hbC kW.lt)
              clear kW)
           | (have kW := ((show IsBlk (u2.alloc (.cells #[.slice none 0 0, .int .i64 0] 31)).drew u2.heap.size 31 [.slice none 0 0, .int .i64 0] from isBlk_new u2 31 [.slice none 0 0, .int .i64 0]).below HBB.out (by simp)).below HBA.out (by have := HBB.out.size; simp at this; omega)
              have HKY := Lib.hid (box_first (c := cw) (code := C) (args_of (by assumption)) (Nat.le_refl _) kW hoC hbC)
              obtain ⟨d0, d1, fd0, fd1⟩ := blk2 (kW.below hbC kW.lt)
              clear kW)
           | (have kW := (isBlk_new wA 31 [.slice none 0 0, .int .i64 0]).below HBB.out (by simp)
              have HKY := Lib.hid (box_first (c := cw) (code := C) (args_of (by assumption)) hzA kW hoC hbC)
              obtain ⟨d0, d1, fd0, fd1⟩ := blk2 (kW.below hbC kW.lt)
              clear kW)
           | (have kW := (isBlk_new wB 31 [.slice none 0 0, .int .i64 0]).below HBA.out (by simp)
              have HKY := Lib.hid (box_first (c := cw) (code := C) (args_of (by assumption)) hzB kW hoC hbC)
              obtain ⟨d0, d1, fd0, fd1⟩ := blk2 (kW.below hbC kW.lt)
              clear kW)
           | (have HKY := Lib.hid (box_last (c := cw) (code := C) (args_of (by assumption)) hoC hbC))
           clear hoC hbC))
    all_goals (go_wp2_with fail; go_meet)
    all_goals exact ⟨_, _, _, Aw, cw, rfl, HKY.out⟩
  case rest =>
    obtain ⟨bw, lw, hw, Aw, cw, rfl, hW⟩ := hcut
    have hWk := hW.blk; have hWo := hW.own
    rw [← HNR.out] at hWk hWo
    have hWb := hW.bel; have hWbl := hWk.lt; have hWhi := hW.at_hi
    have HRW8 := Lib.hid (hWo.rd hWhi)
    have HKW8 := Lib.hid hWk
    have HB8 := Lib.hid (HB2.out.trans (hWb.mono HB2.out.size))
    have HK8 := Lib.hid (HK2.out.below hWb HK2.out.lt)
    have HR8 := Lib.hid (HR2.out.below hWb HR2.out.lt)
    have hx8 : wc.cell? ⟨w.heap.size, 0, none⟩ = some (.slice A0 n0 c0) := HK8.out.cell rfl
    have hwA : w.heap.size < u2.heap.size := HK2.out.lt
    have hwR : w.heap.size + 1 < u2.heap.size := HR2.out.lt
    have hu2 : u2.heap.size ≤ wc.heap.size := hWb.size
    clear hW hWk hWo hWb hWhi HSPEC
    obtain ⟨v8, hv8⟩ : ∃ v8, wc = v8 := ⟨_, rfl⟩
    rw [hv8] at HRW8 HKW8 HB8 HK8 HR8 hx8 hWbl hu2 ⊢
    clear hv8
    go_wp2_with fail
    refine (toHist_any A0 n0 c0 X0 v8 (by omega) (HA.out.next HB8.out)).mono ?_
    rintro e u5 ⟨rfl, ho5, hb5⟩
    have HB85 := Lib.hid hb5
    have HB5 := Lib.hid (HB8.out.trans (hb5.mono HB8.out.size))
    have HO5 := Lib.hid ho5
    have h85 := hb5.size
    clear hb5 ho5 hx8
    have k6 := isBlk_new u5 25 [.slice (some ⟨v8.heap.size + 3, 0, none⟩) n0 n0]
    have hb6 := bel_alloc u5 (.cells #[.slice (some ⟨v8.heap.size + 3, 0, none⟩) n0 n0] 25)
    have hs6 := size_alloc u5 (.cells #[.slice (some ⟨v8.heap.size + 3, 0, none⟩) n0 n0] 25)
    have h5R : w.heap.size + 1 < u5.heap.size := by omega
    have h5A : w.heap.size < u5.heap.size := by omega
    go_wp2
    change Code.wp _ _ _ _ (u5.alloc (.cells #[.slice (some ⟨v8.heap.size + 3, 0, none⟩) n0 n0] 25))
    change IsBlk (u5.alloc (.cells #[.slice (some ⟨v8.heap.size + 3, 0, none⟩) n0 n0] 25)) _ _ _ at k6
    generalize u5.alloc (.cells #[.slice (some ⟨v8.heap.size + 3, 0, none⟩) n0 n0] 25) = u6 at k6 hb6 hs6 ⊢
    have HB86 := Lib.hid (HB85.out.trans (hb6.mono HB85.out.size))
    have HB6 := Lib.hid (HB8.out.trans (HB86.out.mono HB8.out.size))
    have HK6 := Lib.hid (HK8.out.below HB86.out HK8.out.lt)
    have HR6 := Lib.hid (HR8.out.below HB86.out HR8.out.lt)
    have HKX6 := Lib.hid k6
    have HOX6 := Lib.hid (HO5.out.below hb6 (Nat.le_refl _))
    have HRX6 := Lib.hid (HOX6.out.rd hb6.size)
    have h56 : u5.heap.size < u6.heap.size := by omega
    clear k6 hb6 hs6 HO5
    go_cut [8] (fun v wx => ∃ b lo hi A c, v = .pointer (some ⟨b, 0, none⟩) ∧ HoBox u6 wx b lo hi A c R C)
    case first =>
      have hlt1 : w.heap.size + 1 < u6.heap.size := HR6.out.lt
      go_region_held3 (fun w' => w'.cell? ⟨u5.heap.size, 0, none⟩ = some (.slice (some ⟨v8.heap.size + 3, 0, none⟩) n0 n0) ∧ w'.cell? ⟨w.heap.size + 1, 0, none⟩ = some (.int .i64 r1.k) ∧ w'.cell? ⟨w.heap.size + 1, 1, none⟩ = some (.int .i64 r1.s) ∧ w'.cell? ⟨w.heap.size + 1, 2, none⟩ = some (.int .i64 r1.q) ∧ w'.cell? ⟨w.heap.size + 1, 3, none⟩ = some (.int .i64 r1.t) ∧ w'.cell? ⟨w.heap.size + 1, 4, none⟩ = some (.int .i64 r1.o) ∧ w'.cell? ⟨w.heap.size + 1, 5, none⟩ = some (.string r1.d) ∧ Hid (Below u6.heap.size u6 w'))
        (first | exact hsB | exact hsC | exact args_keep HKX6.out HR6.out (Below.refl _ _).drew | exact args_keep HKX6.out HR6.out ((args_of (by assumption)).alloc (args_of (by assumption)).size _) | exact args_keep HKX6.out HR6.out HKY.out.bel)
        (first
          | (go_at_call 50
             refine (toRec_any r1 _).mono ?_
             rintro e wB ⟨rfl, hbB⟩
             have hsB := args_keep HKX6.out HR6.out ((args_of (by assumption)).trans (hbB.mono (args_of (by assumption)).size))
             have HBB := Lib.hid hbB
             have hzB := (args_of hsB).size
             clear hbB)
          | (go_at_call 18
             refine (HIMPL.out _ n0 _ (HRX6.out.next (args_of (by assumption)))).mono ?_
             rintro e wC ⟨Ag, cw, rfl, hoC, hbC⟩
             have hsC := args_keep HKX6.out HR6.out ((args_of (by assumption)).trans (hbC.mono (args_of (by assumption)).size))
             first
             | (have kW := isBlk_new wB 31 [.slice none 0 0, .int .i64 0]
                have HKY := Lib.hid (box_first (c := cw) (code := C) (args_of (by assumption)) hzB kW hoC hbC)
                obtain ⟨d0, d1, fd0, fd1⟩ := blk2 (kW.below hbC kW.lt)
                clear kW)
             | (have kW := (show IsBlk (u6.alloc (.cells #[.slice none 0 0, .int .i64 0] 31)).drew u6.heap.size 31 [.slice none 0 0, .int .i64 0] from isBlk_new u6 31 [.slice none 0 0, .int .i64 0]).below HBB.out (by simp)
                have HKY := Lib.hid (box_first (c := cw) (code := C) (args_of (by assumption)) (Nat.le_refl _) kW hoC hbC)
                obtain ⟨d0, d1, fd0, fd1⟩ := blk2 (kW.below hbC kW.lt)
                clear kW)
             | (have HKY := Lib.hid (box_last (c := cw) (code := C) (args_of (by assumption)) hoC hbC))
             clear hoC hbC))
      all_goals (go_wp2_with fail; go_meet)
      all_goals exact ⟨_, _, _, Ag, cw, rfl, HKY.out⟩
    case rest =>
      obtain ⟨bg, lg, hg, Ag, cg, rfl, hG⟩ := hcut
      have hGk := hG.blk; have hGo := hG.own
      rw [← HNR.out] at hGk hGo
      have hGb := hG.bel; have hGbl := hGk.lt; have hGhi := hG.at_hi; have hGlo := hG.at_lo; have hGat := hG.at_b; have hGap := hG.apart; have hGll := hG.lo_le
      have HB6v := Lib.hid hGb
      obtain ⟨v10, hv10⟩ : ∃ v10, wc = v10 := ⟨_, rfl⟩
      rw [hv10] at hGk hGo hGbl hGhi hGll HB6v
      have HKG10 := Lib.hid hGk; have HOG10 := Lib.hid hGo
      have HB10 := Lib.hid (HB6.out.trans (HB6v.out.mono HB6.out.size))
      have HB810 := Lib.hid (HB86.out.trans (HB6v.out.mono HB86.out.size))
      have HK10 := Lib.hid (HK6.out.below HB6v.out HK6.out.lt)
      have HR10 := Lib.hid (HR6.out.below HB6v.out HR6.out.lt)
      have HKX10 := Lib.hid (HKX6.out.below HB6v.out HKX6.out.lt)
      have HOX10 := Lib.hid (HOX6.out.below HB6v.out (by omega))
      have HKW10 := Lib.hid (HKW8.out.below HB810.out HKW8.out.lt)
      have HRW10 := Lib.hid (HRW8.out.below HB810.out)
      have h610 : u6.heap.size ≤ v10.heap.size := HB6v.out.size
      clear hG hGk hGo hGb
      rw [hv10]
      clear hv10
      obtain ⟨d0, d1, -, -⟩ := blk2 HKG10.out
      obtain ⟨e0, e1, -, -⟩ := blk2 HKW10.out
      go_wp2_with fail
      refine (eqHistOut_same Ag Aw nR cg cw R C v10 (by omega) (HOG10.out.rd hGhi) (HRW10.out.mono (by omega))).mono ?_
      rintro e u11 ⟨rfl, hb11⟩
      have HB11 := Lib.hid hb11
      have h1011 := hb11.size
      have hx11 : u11.cell? ⟨w.heap.size, 0, none⟩ = some (.slice A0 n0 c0) := (HK10.out.below hb11 HK10.out.lt).cell rfl
      have hy11 : u11.cell? ⟨u5.heap.size, 0, none⟩ = some (.slice (some ⟨v8.heap.size + 3, 0, none⟩) n0 n0) := (HKX10.out.below hb11 HKX10.out.lt).cell rfl
      have hlx : w.heap.size < u11.heap.size := by omega
      have hly : u5.heap.size < u11.heap.size := by omega
      clear hb11 d0 d1 e0 e1
      go_wp2
      have HD11 : Hid (Below u11.heap.size u11 u11.drew) := (Below.refl _ _).drew
      have HRR11 : Hid (RdRc u11.drew u11.drew.heap.size A0 n0 X0) := ((HA.out.next HB10.out).next HB11.out).next HD11.out
      have HOX11 : Hid (OwRc u11 v8.heap.size u5.heap.size (some ⟨v8.heap.size + 3, 0, none⟩) n0 X0) := HOX10.out.below HB11.out (by omega)
      go_region_held3 (fun w' => w'.cell? ⟨w.heap.size, 0, none⟩ = some (.slice A0 n0 c0) ∧ w'.cell? ⟨u5.heap.size, 0, none⟩ = some (.slice (some ⟨v8.heap.size + 3, 0, none⟩) n0 n0))
        (first | exact ⟨hx11, hy11⟩ | exact hsa | exact hsb | go_keep)
        (first
          | (go_at_call 47
             refine (toHist_any A0 n0 c0 X0 u11.drew (by omega) HRR11.out).mono ?_
             rintro e ua ⟨rfl, hoa, hba⟩
             have hsa : ua.cell? ⟨w.heap.size, 0, none⟩ = some (.slice A0 n0 c0) ∧ ua.cell? ⟨u5.heap.size, 0, none⟩ = some (.slice (some ⟨v8.heap.size + 3, 0, none⟩) n0 n0) :=
               ⟨(hba.cell (p := ⟨w.heap.size, 0, none⟩) hlx).trans hx11, (hba.cell (p := ⟨u5.heap.size, 0, none⟩) hly).trans hy11⟩
             have HBa := Lib.hid (HD11.out.trans hba)
             have HOa := Lib.hid hoa
             clear hoa hba)
          | (go_at_call 48
             refine (eqHist_same _ _ n0 n0 n0 X0 _ (by omega) ((HOX11.out.below HBa.out (by omega)).rd (by have := HBa.out.size; omega)) (HOa.out.rd (Nat.le_refl _))).mono ?_
             rintro e ub ⟨rfl, hbb⟩
             have HBb := Lib.hid (HBa.out.trans (hbb.mono HBa.out.size))
             have hsb : ub.cell? ⟨w.heap.size, 0, none⟩ = some (.slice A0 n0 c0) ∧ ub.cell? ⟨u5.heap.size, 0, none⟩ = some (.slice (some ⟨v8.heap.size + 3, 0, none⟩) n0 n0) :=
               ⟨(HBb.out.cell (p := ⟨w.heap.size, 0, none⟩) hlx).trans hx11, (HBb.out.cell (p := ⟨u5.heap.size, 0, none⟩) hly).trans hy11⟩
             clear hbb))
      all_goals
        have HBvb : Hid (Below v10.heap.size v10 ub) := HB11.out.trans (HBb.out.mono HB11.out.size)
        have hvb := HBvb.out.size
        have hyb : ub.cell? ⟨u5.heap.size, 0, none⟩ = some (.slice (some ⟨v8.heap.size + 3, 0, none⟩) n0 n0) := hsb.2
        clear hsb hx11 hy11 hlx hly HRR11 HOX11 HD11
        go_wp2_with fail
        refine (markHist_any _ v8.heap.size u5.heap.size n0 n0 1 X0 ub (by omega) (by omega) (by omega) (HOX10.out.below HBvb.out (by omega))).mono ?_
        rintro e um ⟨rfl, -, hbm⟩
        rw [← HK.out]
        have hbmv : Btw v8.heap.size u5.heap.size v10 um := (Btw.of_below HBvb.out).trans hbm
        have hvm := hbmv.size
        have HBm : Hid (Below w.heap.size w um) := HB10.out.trans ((hbmv.below (by omega)).mono HB8.out.size)
        have HKm : Hid (IsBlk um w.heap.size 55 [.slice A0 n0 c0]) := (hbmv.block _ HK10.out.lt (by omega)).trans HK10.out
        have HRm : Hid (IsBlk um (w.heap.size + 1) 60 (recC r1)) := (hbmv.block _ HR10.out.lt (by omega)).trans HR10.out
        have HKWm : Hid (IsBlk um bw 31 [.slice Aw nR cw, .int .i64 C]) := (hbmv.block _ HKW10.out.lt (by omega)).trans HKW10.out
        have HKGm : Hid (IsBlk um bg 31 [.slice Ag nR cg, .int .i64 C]) := (hbmv.block _ HKG10.out.lt (by omega)).trans HKG10.out
        have HRWm := Lib.hid (HRW10.out.btw hbmv (Nat.le_refl _) (by omega))
        have HOGm := Lib.hid (HOG10.out.btw hbmv (by omega) (by omega))
        obtain ⟨d0, d1, -, -⟩ := blk2 HKGm.out
        obtain ⟨e0, e1, -, -⟩ := blk2 HKWm.out
        clear hbm hbmv hyb
        go_wp2_with fail
        refine (eqHistOut_same Ag Aw nR cg cw R C um (by omega) (HOGm.out.rd (by omega)) (HRWm.out.mono (by omega))).mono ?_
        rintro e un ⟨rfl, hbn⟩
        have HBn := Lib.hid hbn
        have hmn := hbn.size
        clear d0 d1 e0 e1
        obtain ⟨d0, d1, -, -⟩ := blk2 (HKGm.out.below hbn HKGm.out.lt)
        clear hbn
        go_wp2_with fail
        refine (markHistOut_any Ag lg hg nR cg 1 R C un (by omega) (by omega) (by omega) (HOGm.out.below HBn.out (by omega))).mono ?_
        rintro e up ⟨rfl, hmk, hbp⟩
        rw [← HM.out]
        have hbmp : Btw lg hg um up := (Btw.of_below HBn.out).trans hbp
        have hmp := hbmp.size
        have HBp : Hid (Below w.heap.size w up) := HBm.out.trans ((hbmp.below (by omega)).mono (by omega))
        have HKp : Hid (IsBlk up w.heap.size 55 [.slice A0 n0 c0]) := (hbmp.block _ HKm.out.lt (by omega)).trans HKm.out
        have HRp : Hid (IsBlk up (w.heap.size + 1) 60 (recC r1)) := (hbmp.block _ HRm.out.lt (by omega)).trans HRm.out
        have HKWp : Hid (IsBlk up bw 31 [.slice Aw nR cw, .int .i64 C]) := (hbmp.block _ HKWm.out.lt (by omega)).trans HKWm.out
        have HKGp : Hid (IsBlk up bg 31 [.slice Ag nR cg, .int .i64 C]) := (hbmp.block _ HKGm.out.lt (by omega)).trans HKGm.out
        have HRWp := Lib.hid (HRWm.out.btw hbmp (by omega) (by omega))
        have HMKp := Lib.hid hmk
        clear hbp hbmp hmk d0 d1
        obtain ⟨d0, d1, -, -⟩ := blk2 HKGp.out
        go_wp2_with fail
        refine (heldHistOut_any Ag lg hg nR cg 1 C up (by omega) (by omega) (by omega) HMKp.out).mono ?_
        rintro e uq ⟨rfl, hbq⟩
        rw [← HM.out]
        have HBpq := Lib.hid hbq
        have hpq := hbq.size
        have HBq := Lib.hid (HBp.out.trans (hbq.mono HBp.out.size))
        have HKq := Lib.hid (HKp.out.below hbq HKp.out.lt)
        have HRq := Lib.hid (HRp.out.below hbq HRp.out.lt)
        clear hbq d0 d1
        go_wp2
        go_cut [12] (fun v wx => ∃ b lo hi A c, v = .pointer (some ⟨b, 0, none⟩) ∧ HoBox uq wx b lo hi A c R C)
        case first =>
          have hlt0 : w.heap.size < uq.heap.size := HKq.out.lt
          have hlt1 : w.heap.size + 1 < uq.heap.size := HRq.out.lt
          have HAq := Lib.hid (HA.out.next HBq.out)
          go_region_held3 (fun w' => w'.cell? ⟨w.heap.size, 0, none⟩ = some (.slice A0 n0 c0) ∧ w'.cell? ⟨w.heap.size + 1, 0, none⟩ = some (.int .i64 r1.k) ∧ w'.cell? ⟨w.heap.size + 1, 1, none⟩ = some (.int .i64 r1.s) ∧ w'.cell? ⟨w.heap.size + 1, 2, none⟩ = some (.int .i64 r1.q) ∧ w'.cell? ⟨w.heap.size + 1, 3, none⟩ = some (.int .i64 r1.t) ∧ w'.cell? ⟨w.heap.size + 1, 4, none⟩ = some (.int .i64 r1.o) ∧ w'.cell? ⟨w.heap.size + 1, 5, none⟩ = some (.string r1.d) ∧ Hid (Below uq.heap.size uq w'))
            (first | exact hsA | exact hsB | exact hsC | exact args_keep HKq.out HRq.out (Below.refl _ _).drew | exact args_keep HKq.out HRq.out ((args_of (by assumption)).alloc (args_of (by assumption)).size _) | exact args_keep HKq.out HRq.out HKY.out.bel)
            (first
              | (go_at_call 47
                 refine (toHist_any A0 n0 c0 X0 _ (by omega) (HAq.out.next (args_of (by assumption)))).mono ?_
                 rintro e wA ⟨rfl, hoA, hbA⟩
                 have hsA := args_keep HKq.out HRq.out ((args_of (by assumption)).trans (hbA.mono (args_of (by assumption)).size))
                 have HRDA := Lib.hid (hoA.rd (Nat.le_refl _))
                 have HBA := Lib.hid hbA
                 have hzA := (args_of hsA).size
                 clear hoA hbA)
              | (go_at_call 50
                 refine (toRec_any r1 _).mono ?_
                 rintro e wB ⟨rfl, hbB⟩
                 have hsB := args_keep HKq.out HRq.out ((args_of (by assumption)).trans (hbB.mono (args_of (by assumption)).size))
                 have HBB := Lib.hid hbB
                 have hzB := (args_of hsB).size
                 clear hbB)
              | (go_at_call 18
                 refine (HIMPL.out _ n0 _ ?_).mono ?_
                 · first
                   | exact HRDA.out
                   | exact HRDA.out.next (bel_alloc _ _)
                   | exact HRDA.out.next HBB.out
                   | exact (HRDA.out.next HBB.out).next (bel_alloc _ _)
                   | exact (HRDA.out.next (bel_alloc _ _)).next HBB.out
                   | simpa using HRDA.out
                   | simpa using HRDA.out.next HBB.out
                 rintro e wC ⟨Ah, cw, rfl, hoC, hbC⟩
                 have hsC := args_keep HKq.out HRq.out ((args_of (by assumption)).trans (hbC.mono (args_of (by assumption)).size))
                 first
                 | (have kW := isBlk_new wA 31 [.slice none 0 0, .int .i64 0]
                    have HKY := Lib.hid (box_first (c := cw) (code := C) (args_of (by assumption)) hzA kW hoC hbC)
                    obtain ⟨d0, d1, fd0, fd1⟩ := blk2 (kW.below hbC kW.lt)
                    clear kW)
                 | (have kW := isBlk_new wB 31 [.slice none 0 0, .int .i64 0]
                    have HKY := Lib.hid (box_first (c := cw) (code := C) (args_of (by assumption)) hzB kW hoC hbC)
                    obtain ⟨d0, d1, fd0, fd1⟩ := blk2 (kW.below hbC kW.lt)
                    clear kW)
                 | (have kW := ((show IsBlk (uq.alloc (.cells #[.slice none 0 0, .int .i64 0] 31)).drew uq.heap.size 31 [.slice none 0 0, .int .i64 0] from isBlk_new uq 31 [.slice none 0 0, .int .i64 0]).below HBA.out (by simp)).below HBB.out (by have := HBA.out.size; simp at this; omega)
                    have HKY := Lib.hid (box_first (c := cw) (code := C) (args_of (by assumption)) (Nat.le_refl _) kW hoC hbC)
                    obtain ⟨d0, d1, fd0, fd1⟩ := blk2 (kW.below hbC kW.lt)
                    clear kW)
                 | (have kW := ((show IsBlk (uq.alloc (.cells #[.slice none 0 0, .int .i64 0] 31)).drew uq.heap.size 31 [.slice none 0 0, .int .i64 0] from isBlk_new uq 31 [.slice none 0 0, .int .i64 0]).below HBB.out (by simp)).below HBA.out (by have := HBB.out.size; simp at this; omega)
                    have HKY := Lib.hid (box_first (c := cw) (code := C) (args_of (by assumption)) (Nat.le_refl _) kW hoC hbC)
                    obtain ⟨d0, d1, fd0, fd1⟩ := blk2 (kW.below hbC kW.lt)
                    clear kW)
                 | (have kW := (isBlk_new wA 31 [.slice none 0 0, .int .i64 0]).below HBB.out (by simp)
                    have HKY := Lib.hid (box_first (c := cw) (code := C) (args_of (by assumption)) hzA kW hoC hbC)
                    obtain ⟨d0, d1, fd0, fd1⟩ := blk2 (kW.below hbC kW.lt)
                    clear kW)
                 | (have kW := (isBlk_new wB 31 [.slice none 0 0, .int .i64 0]).below HBA.out (by simp)
                    have HKY := Lib.hid (box_first (c := cw) (code := C) (args_of (by assumption)) hzB kW hoC hbC)
                    obtain ⟨d0, d1, fd0, fd1⟩ := blk2 (kW.below hbC kW.lt)
                    clear kW)
                 | (have HKY := Lib.hid (box_last (c := cw) (code := C) (args_of (by assumption)) hoC hbC))
                 clear hoC hbC))
          all_goals (go_wp2_with fail; go_meet)
          all_goals exact ⟨_, _, _, Ah, cw, rfl, HKY.out⟩
        case rest =>
          obtain ⟨bh, lh, hh, Ah, ch, rfl, hH⟩ := hcut
          have hHk := hH.blk; have hHo := hH.own
          rw [← HNR.out] at hHk hHo
          have hHb := hH.bel; have hHhi := hH.at_hi
          have HBps := Lib.hid (HBpq.out.trans (hHb.mono HBpq.out.size))
          have HRH := Lib.hid (hHo.rd hHhi)
          have HBs := Lib.hid (HBp.out.trans (HBps.out.mono HBp.out.size))
          obtain ⟨d0, d1, -, -⟩ := blk2 hHk
          obtain ⟨e0, e1, -, -⟩ := blk2 (HKWp.out.below HBps.out HKWp.out.lt)
          have hps := HBps.out.size
          clear hH hHk hHo hHb hHhi
          go_wp2_with fail
          refine (eqHistOut_same Ah Aw nR ch cw R C wc (by omega) HRH.out ((HRWp.out.below (HBps.out.mono (by omega))).mono (by omega))).mono ?_
          rintro e uu ⟨rfl, hbu⟩
          have HBpu : Hid (Below up.heap.size up uu) := HBps.out.trans (hbu.mono HBps.out.size)
          have hpu := HBpu.out.size
          clear hbu d0 d1 e0 e1
          obtain ⟨d0, d1, -, -⟩ := blk2 (HKGp.out.below HBpu.out HKGp.out.lt)
          go_wp2_with fail
          refine (heldHistOut_any Ag lg hg nR cg 1 C uu (by omega) (by omega) (by omega) (HMKp.out.below HBpu.out (by omega))).mono ?_
          rintro e uv ⟨rfl, hbv⟩
          rw [← HM.out]
          have HBv := Lib.hid (HBp.out.trans ((HBpu.out.trans (hbv.mono HBpu.out.size)).mono HBp.out.size))
          clear hbv d0 d1
          go_wp2
          go_ret
          exact ⟨rfl, HBv.out⟩

set_option maxRecDepth 100000 in
theorem lifted (os : Os) (started : os.Started) (H : Type) (enc : TypeId × Value → H) :
    ReturnsInHanded {} Try.checked os 6 .any (Rows.fnExactHistAddSpec.pre6 enc Try.prog Try.f6 Rows.fnExactHistAddRow.domain false) (Rows.fnExactHistAddSpec.post enc Try.prog Try.f6 false true false false) := by
  refine returnsInHanded_of_change (C := Try.checked) own started (by kernel_rfl) Try.func6
    (ChangeSpec.witness6 (enc := enc) (C := Try.checked) false ⟨#[], #[.agg #[.slice none 0 0], .agg #[.int .i64 0, .int .i64 0, .int .i64 0, .int .i64 0, .int .i64 0, .string ByteArray.empty]], []⟩ 8 (by kernel_rfl) (by kernel_rfl) (by kernel_rfl) (by kernel_rfl)) ?_
  intro W base args ds gs before hval0 hW hcnd _
  have hval : ∀ (j : Nat) t v, Try.f6.params[j]? = some t → args[j]? = some v → Value.okWide Try.prog W .any base t v := hval0
  have hW' := hW
  obtain ⟨p, q, hA0, hV, rfl, hfz, hnd⟩ := hW
  have hA : DataW.TrodAll enc Try.prog W 0 (fun _ => true) true Try.f6.params.toList args.toList ds p := hA0
  rw [Try.params6] at hA hval
  obtain ⟨v0, vs0, d0, ds0, p0, q0, hargs, rfl, rfl, h0, r0⟩ := trodAll_cons hA
  obtain ⟨v1, vs1, d1, ds1, p1, q1, rfl, rfl, rfl, h1, r1⟩ := trodAll_cons r0
  obtain ⟨rfl, rfl, rfl⟩ := trodAll_nil r1
  obtain rfl : args = #[v0, v1] := by cases args; simp_all
  obtain ⟨rfl, rfl⟩ := trodVars_none hV
  have k0 := h0
  have lt0 : ∀ x ∈ p0, x.block < W.heap.size := by obtain ⟨m, hm⟩ := k0; exact DataW.trod_lt m _ _ _ hm
  obtain ⟨A0, n0, c0, X0, rfl, w0, x0⟩ := open_lawsHist (hval 0 55 v0 rfl rfl) h0
  have k1 := h1
  have lt1 : ∀ x ∈ p1, x.block < W.heap.size := by obtain ⟨m, hm⟩ := k1; exact DataW.trod_lt m _ _ _ hm
  obtain ⟨r1, rfl, w1⟩ := open_lawsRec (hval 1 60 v1 rfl rfl) h1
  clear hA0 hval0
  refine (walk A0 n0 c0 X0 r1 W w0 x0 w1).mono fun e W' ⟨he, bel⟩ => ?_
  subst he
  exact ⟨_, rfl, _, _, _, [], _, [], hW', trodAll_mk1 (shut_bool Try.underlying4 _), (trodAll_cons_mk (Below.trod laidOut (by kernel_rfl) (of_decide_eq_true (by kernel_rfl)) k0 bel lt0) (trodAll_cons_mk (Below.trod laidOut (by kernel_rfl) (of_decide_eq_true (by kernel_rfl)) k1 bel lt1) trodAll_mk0)), rfl, bel.frame _, fun h => by cases h⟩

theorem over : Rows.fnExactHistAddRow.holds Try.pinned (OpenSpec.ofChange Rows.fnExactHistAddSpec) :=
  OpenClaim.holds_of_wide 6 Try.f6 rfl rfl rfl rfl rfl rfl rfl ⟨rfl, rfl, rfl, rfl, rfl⟩ rfl rfl rfl rfl rfl (by kernel_rfl) Try.func6 (by kernel_rfl)
    (of_decide_eq_true (by kernel_rfl)) (by unfold Func.isWrapper; first | (rw [if_pos (by decide +kernel)]; kernel_rfl) | (rw [if_neg (by decide +kernel)]; exact ⟨rfl, rfl⟩))
    (fun os started H enc _ => lifted os started H enc)

theorem proved : Rows.FnExactHistAddSaid := over
#print axioms proved
end Go.Proofs.Ytllpmflkcfnknaa.fnExactHistAdd
