/-
  For every chip n, every record r and every reserve, the law FnExactAppend returns true: the program's Append answers as the document's, every field; it writes into no argument; its answer owns its memory; and the arguments read afterwards as before. The three sentinel errors read as the program's text lays them (a tied card).
-/
import Derived.Test.YtimlaeicbnnbdaaDoorRows
import Derived.Test.YtimlaeicbnnbdaaDoorTie
import Derived.Test.YtimlaeicbnnbdaaDoorCards
import Derived.Test.YtimlaeicbnnbdaaDoorLgLaid
import Derived.Test.YtimlaeicbnnbdaaDoorNdOpen
import Derived.Test.YtimlaeicbnnbdaaDoorNdEq
import Derived.Test.YtimlaeicbnnbdaaDoorNdTo
import Derived.Test.YtimlaeicbnnbdaaDoorNdSz
import Derived.Test.YtimlaeicbnnbdaaDoorNdHeld
import Derived.Test.YtimlaeicbnnbdaaDoorNdAns
import Derived.Test.YtimlaeicbnnbdaaDoorRcOpen
import Derived.Test.YtimlaeicbnnbdaaDoorHsLaw
import Derived.Test.YtimlaeicbnnbdaaDoorLgBox
import Derived.Deep.RegionHeld3
import Derived.Deep.DeepCutAuto
import Derived.Deep.CutBlock
import Derived.WalkKit
import Derived.ProofKit
import Derived.OpenShut
import Derived.ShutString
import Derived.ChangeOld
import Derived.ChangeSame
import Derived.ChangeVars
import Derived.JoinedOf
import Derived.RowKitTokens
import Derived.LaidLaws
import Derived.LaidHandle
import Derived.Stop.Joined
import Derived.SevenTiedAt
import Derived.Below
namespace Go.Proofs.YtimlaeicbnnbdaaDoor.fnExactAppend
open Go.ChangeShapes Go.WideShapes Go.ChangeAt Go.RowKit
open Go.ChangeMaps (open_string shut_string)
set_option linter.unusedVariables false

theorem own : ownKnob Tryd.prog.godebug = none := by kernel_rfl
theorem laidOut : laidOutB Tryd.prog = true := by kernel_rfl

noncomputable abbrev laidWorld (os : Os) : World := sentWorld os ⟨#[97, 110, 32, 97, 114, 103, 117, 109, 101, 110, 116, 32, 105, 115, 32, 105, 110, 118, 97, 108, 105, 100]⟩ ⟨#[116, 104, 101, 114, 101, 32, 105, 115, 32, 110, 111, 32, 98, 108, 111, 99, 107, 32, 102, 111, 114, 32, 116, 104, 101, 32, 110, 101, 120, 116, 32, 112, 97, 103, 101]⟩ ⟨#[116, 104, 101, 32, 114, 101, 99, 111, 114, 100, 115, 32, 97, 114, 101, 32, 110, 111, 32, 118, 97, 108, 105, 100, 32, 104, 105, 115, 116, 111, 114, 121]⟩
theorem laidWorld_met (os : Os) (args : Array Value) : laidMetH Tryd.prog Rows.fnExactAppendRow.laid ((laidWorld os).forCall (fun _ _ => 0) ⟨#[], args, []⟩).memory :=
  laidMetH_of_parts (laidMet_of_run' 8 (by kernel_rfl) (by kernel_rfl)) (by kernel_rfl)

set_option maxHeartbeats 16000000 in
set_option maxRecDepth 100000 in
theorem walk (A0 : Option Addr) (n0 c0 : Nat) (X0 : List Bk) (r1 : Bt.Rc) (a2 : Int) (w : World) (w0 : RdBk w w.heap.size A0 n0 X0) (x0 : Wide X0) (w1 : r1.d.size ≤ maxLen) (w2 : (Lit.int .i64 a2).wf = true) (a0' a1' a2' : Addr) (hS : Sents w a0' a1' a2') :
    Calls Tryd.prog 4 #[.agg #[.slice A0 n0 c0], recV r1, .int .i64 a2] w fun e w' => e = .returned (.bool true) ∧ Below w.heap.size w w' := by
  have HA := Lib.hid w0; have HX := Lib.hid x0; have HSEN := Lib.hid hS; clear w0 x0 hS
  unfold maxLen at w1
  go_enter Tryd.func4, Tryd.ntmps4
  go_wp2_with fail
  have hb0 : Below w.heap.size w ((w.alloc (.cells #[.slice A0 n0 c0] 24)).alloc (.cells (recC r1).toArray 38)) := ((Below.refl _ _).alloc (Nat.le_refl _) _).alloc (by simp) _
  have k0 := (isBlk_new w 24 [.slice A0 n0 c0]).alloc (.cells (recC r1).toArray 38)
  have k1 := isBlk_new (w.alloc (.cells #[.slice A0 n0 c0] 24)) 38 (recC r1)
  rw [size_alloc] at k1
  change IsBlk ((w.alloc (.cells #[.slice A0 n0 c0] 24)).alloc (.cells (recC r1).toArray 38)) _ _ _ at k0
  change IsBlk ((w.alloc (.cells #[.slice A0 n0 c0] 24)).alloc (.cells (recC r1).toArray 38)) _ _ _ at k1
  change Calls _ _ _ ((w.alloc (.cells #[.slice A0 n0 c0] 24)).alloc (.cells (recC r1).toArray 38)) _
  generalize (w.alloc (.cells #[.slice A0 n0 c0] 24)).alloc (.cells (recC r1).toArray 38) = U0 at hb0 k0 k1 ⊢
  refine (szNand_any A0 n0 c0 X0 1048576 U0 (by omega) (by omega) HX.out (HA.out.next hb0)).mono ?_
  rintro e u1 ⟨rfl, hb1⟩
  have HB1 := Lib.hid (hb0.trans (hb1.mono hb0.size))
  have HK1 := Lib.hid (k0.below hb1 k0.lt)
  have HR1 := Lib.hid (k1.below hb1 k1.lt)
  obtain ⟨r0', r1', r2', r3', r4', r5'⟩ := rcCells HR1.out
  clear hb1 hb0 k0 k1
  by_cases hs : ((szBks X0 : Nat) : Int) ≤ 1048576
  case neg =>
    have hz := szR_no (t := szBks X0) (left := 1048576) (by omega)
    go_wp2
    go_ret
    exact ⟨rfl, HB1.out⟩
  have hz := szR_ok hs
  have hnn : 0 ≤ 1048576 - ((szBks X0 : Nat) : Int) := by omega
  have HSM := Lib.hid (small_of_sz (X := X0) (by omega))
  have HL0 := Lib.hid HA.out.1
  have hnl : n0 ≤ 1048576 := by have := HSM.out.1; have := HL0.out; omega
  have HPL : Hid (∀ b ∈ X0, b.pages.length ≤ 2147483648) := fun b hb => by have := (HSM.out.2 b hb).1; omega
  have HKX : Hid (kAt X0 1 n0 ≤ 16777216) := by show kAt X0 1 n0 ≤ 16777216; rw [← HL0.out]; exact sz_kAt (by omega)
  obtain ⟨lf, hlf⟩ : ∃ lf, lf = 1048576 - ((szBks X0 : Nat) : Int) := ⟨_, rfl⟩
  rw [← hlf] at hz hnn
  have hlf2 : lf ≤ 1048576 := by omega
  clear hlf
  go_wp2_with fail
  refine (szRec_gen r1 lf u1 hnn hlf2 w1).mono ?_
  rintro e u2 ⟨rfl, hb2⟩
  have HB2 := Lib.hid (HB1.out.trans (hb2.mono HB1.out.size))
  have HK2 := Lib.hid (HK1.out.below hb2 HK1.out.lt)
  have HR2 := Lib.hid (HR1.out.below hb2 HR1.out.lt)
  clear hb2 r0' r1' r2' r3' r4' r5' hz
  by_cases hs2 : ((r1.d.size : Nat) : Int) ≤ lf
  case neg =>
    have hz := szR_no (t := r1.d.size) (left := lf) (by omega)
    go_wp2
    go_ret
    exact ⟨rfl, HB2.out⟩
  have hz := szR_ok hs2
  have hnn2 : 0 ≤ lf - ((r1.d.size : Nat) : Int) := by omega
  have hrd : r1.d.size ≤ 1048576 := by omega
  obtain ⟨R, hR⟩ : ∃ R, R = appAns X0 (decide r1.Ok) (bstr r1.bytes) a2 := ⟨_, rfl⟩
  have hbs : (bstr r1.bytes).size ≤ 60 := by
    rw [bstr_size]
    by_cases hok : r1.Ok
    · have := Bt.Rc.bytes_short hok; omega
    · rw [Bt.Rc.bytes_bad hok]; simp
  have HFEW : Hid (Few R.nd) := by show Few R.nd; rw [hR]; exact appAns_few X0 _ _ a2 hbs
  have HSPEC : Hid (∀ (A : Option Addr) (c : Nat) (W : World), RdBk W W.heap.size A n0 X0 → Calls Tryd.prog 16 #[.agg #[.slice A n0 c], recV r1, .int .i64 a2] W (RetAns W R)) := fun A c W h => by rw [hR]; exact spec_append A n0 c X0 r1 a2 W w1 HSM.out h
  have HIMPL : Hid (∀ (A : Option Addr) (c : Nat) (W : World), Below w.heap.size w W → RdBk W W.heap.size A n0 X0 → Calls Tryd.prog 18 #[.agg #[.slice A n0 c], recV r1, .int .i64 a2] W (RetAns W R)) := fun A c W hs h => by rw [hR]; exact impl_append A n0 c X0 r1 a2 a0' a1' a2' W w1 HSM.out (HSEN.out.below hs) h
  obtain ⟨nR, hnR⟩ : ∃ nR, nR = R.nd.length := ⟨_, rfl⟩
  have HNR := Lib.hid hnR
  have hnRl : nR ≤ 12 := by rw [hnR]; exact HFEW.out.1
  have HPR : Hid (∀ b ∈ R.nd, b.pages.length ≤ 2147483648) := fun b hb => by have := HFEW.out.2 b hb; omega
  have HKR : Hid (kAt R.nd 1 nR ≤ 16777216) := by show kAt R.nd 1 nR ≤ 16777216; rw [hnR]; exact few_kAt HFEW.out
  clear hR hnR hbs
  go_wp2
  go_cut [8] (fun v6 wx => ∃ b lo hi A c, v6 = .pointer (some ⟨b, 0, none⟩) ∧ AnBox u2 wx b lo hi A c R)
  case first =>
    have hlt0 : w.heap.size < u2.heap.size := HK2.out.lt
    have hlt1 : w.heap.size + 1 < u2.heap.size := HR2.out.lt
    have hA2 : RdBk u2 u2.heap.size A0 n0 X0 := HA.out.next HB2.out
    have HA2 := Lib.hid hA2; clear hA2
    go_region_held3 (fun w' => w'.cell? ⟨w.heap.size, 0, none⟩ = some (.slice A0 n0 c0) ∧ w'.cell? ⟨w.heap.size + 1, 0, none⟩ = some (.int .i64 r1.k) ∧ w'.cell? ⟨w.heap.size + 1, 1, none⟩ = some (.int .i64 r1.s) ∧ w'.cell? ⟨w.heap.size + 1, 2, none⟩ = some (.int .i64 r1.q) ∧ w'.cell? ⟨w.heap.size + 1, 3, none⟩ = some (.int .i64 r1.t) ∧
        w'.cell? ⟨w.heap.size + 1, 4, none⟩ = some (.int .i64 r1.o) ∧ w'.cell? ⟨w.heap.size + 1, 5, none⟩ = some (.string r1.d) ∧ Hid (Below u2.heap.size u2 w'))
      (first | exact hsA | exact hsB | exact hsC | exact app_keep HK2.out HR2.out (Below.refl _ _).drew | exact app_keep HK2.out HR2.out ((app_of (by assumption)).alloc (app_of (by assumption)).size _) | exact app_keep HK2.out HR2.out HKY.out.bel)
      (first
        | (go_at_call 8
           refine (toNand_any A0 n0 c0 X0 _ (by omega) HPL.out (HA2.out.next (app_of (by assumption)))).mono ?_
           rintro e wA ⟨rfl, hoA, hbA⟩
           have hsA := app_keep HK2.out HR2.out ((app_of (by assumption)).trans (hbA.mono (app_of (by assumption)).size))
           have HRDA := Lib.hid (hoA.rd (Nat.le_refl _))
           have HBA := Lib.hid hbA
           have hzA := (app_of hsA).size
           clear hoA hbA)
        | (go_at_call 17
           refine (toRec_any r1 _).mono ?_
           rintro e wB ⟨rfl, hbB⟩
           have hsB := app_keep HK2.out HR2.out ((app_of (by assumption)).trans (hbB.mono (app_of (by assumption)).size))
           have HBB := Lib.hid hbB
           have hzB := (app_of hsB).size
           clear hbB)
        | (go_at_call 16
           refine (HSPEC.out _ n0 _ ?_).mono ?_
           · first
             | exact HRDA.out
             | exact HRDA.out.next (bel_allocN _ _)
             | exact HRDA.out.next HBB.out
             | exact (HRDA.out.next HBB.out).next (bel_allocN _ _)
             | exact (HRDA.out.next (bel_allocN _ _)).next HBB.out
             | simpa using HRDA.out
             | simpa using HRDA.out.next HBB.out
           rintro e wC ⟨Aw, cw, rfl, hoC, hbC⟩
           have hsC := app_keep HK2.out HR2.out ((app_of (by assumption)).trans (hbC.mono (app_of (by assumption)).size))
           first
           | (have kW := isBlk_new wA 41 [.slice none 0 0, .string ⟨#[]⟩, .int .i64 0]
              have HKY := Lib.hid (an_first (c := cw) (app_of (by assumption)) hzA kW hoC hbC)
              obtain ⟨d0, d1, d2, fd0, fd1, fd2⟩ := blk3 (kW.below hbC kW.lt)
              clear kW)
           | (have kW := isBlk_new wB 41 [.slice none 0 0, .string ⟨#[]⟩, .int .i64 0]
              have HKY := Lib.hid (an_first (c := cw) (app_of (by assumption)) hzB kW hoC hbC)
              obtain ⟨d0, d1, d2, fd0, fd1, fd2⟩ := blk3 (kW.below hbC kW.lt)
              clear kW)
           | (have kW := ((show IsBlk (u2.alloc (.cells #[.slice none 0 0, .string ⟨#[]⟩, .int .i64 0] 41)).drew u2.heap.size 41 [.slice none 0 0, .string ⟨#[]⟩, .int .i64 0] from isBlk_new u2 41 [.slice none 0 0, .string ⟨#[]⟩, .int .i64 0]).below HBA.out (by simp)).below HBB.out (by have := HBA.out.size; simp at this; omega)
              have HKY := Lib.hid (an_first (c := cw) (app_of (by assumption)) (Nat.le_refl _) kW hoC hbC)
              obtain ⟨d0, d1, d2, fd0, fd1, fd2⟩ := blk3 (kW.below hbC kW.lt)
              clear kW)
           | (have kW := ((show IsBlk (u2.alloc (.cells #[.slice none 0 0, .string ⟨#[]⟩, .int .i64 0] 41)).drew u2.heap.size 41 [.slice none 0 0, .string ⟨#[]⟩, .int .i64 0] from isBlk_new u2 41 [.slice none 0 0, .string ⟨#[]⟩, .int .i64 0]).below HBB.out (by simp)).below HBA.out (by have := HBB.out.size; simp at this; omega)
              have HKY := Lib.hid (an_first (c := cw) (app_of (by assumption)) (Nat.le_refl _) kW hoC hbC)
              obtain ⟨d0, d1, d2, fd0, fd1, fd2⟩ := blk3 (kW.below hbC kW.lt)
              clear kW)
           | (have kW := (isBlk_new wA 41 [.slice none 0 0, .string ⟨#[]⟩, .int .i64 0]).below HBB.out (by simp)
              have HKY := Lib.hid (an_first (c := cw) (app_of (by assumption)) hzA kW hoC hbC)
              obtain ⟨d0, d1, d2, fd0, fd1, fd2⟩ := blk3 (kW.below hbC kW.lt)
              clear kW)
           | (have kW := (isBlk_new wB 41 [.slice none 0 0, .string ⟨#[]⟩, .int .i64 0]).below HBA.out (by simp)
              have HKY := Lib.hid (an_first (c := cw) (app_of (by assumption)) hzB kW hoC hbC)
              obtain ⟨d0, d1, d2, fd0, fd1, fd2⟩ := blk3 (kW.below hbC kW.lt)
              clear kW)
           | (have HKY := Lib.hid (an_last (c := cw) (app_of (by assumption)) hoC hbC))
           clear hoC hbC))
    all_goals (go_wp2_with fail; go_meet)
    all_goals exact ⟨_, _, _, Aw, cw, rfl, HKY.out⟩
  case rest =>
    obtain ⟨bw, lw, hw, Aw, cw, rfl, hW⟩ := hcut
    have hWk := hW.blk; have hWo := hW.own
    rw [← HNR.out] at hWk hWo
    have hWb := hW.bel; have hWbl := hWk.lt; have hWhi := hW.at_hi
    have HRW8 := Lib.hid (hWo.rd hWhi)
    have HKW8 := Lib.hid hWk
    have HB8 := Lib.hid (HB2.out.trans (hWb.mono HB2.out.size))
    have HK8 := Lib.hid (HK2.out.below hWb HK2.out.lt)
    have HR8 := Lib.hid (HR2.out.below hWb HR2.out.lt)
    have hx8 : wc.cell? ⟨w.heap.size, 0, none⟩ = some (.slice A0 n0 c0) := HK8.out.cell rfl
    have hwA : w.heap.size < u2.heap.size := HK2.out.lt
    have hwR : w.heap.size + 1 < u2.heap.size := HR2.out.lt
    have hu2 : u2.heap.size ≤ wc.heap.size := hWb.size
    clear hW hWk hWo hWb hWhi HSPEC
    obtain ⟨v8, hv8⟩ : ∃ v8, wc = v8 := ⟨_, rfl⟩
    rw [hv8] at HRW8 HKW8 HB8 HK8 HR8 hx8 hWbl hu2 ⊢
    clear hv8
    go_wp2_with fail
    refine (toNand_any A0 n0 c0 X0 v8 (by omega) HPL.out (HA.out.next HB8.out)).mono ?_
    rintro e u5 ⟨rfl, ho5, hb5⟩
    have HB85 := Lib.hid hb5
    have HB5 := Lib.hid (HB8.out.trans (hb5.mono HB8.out.size))
    have HO5 := Lib.hid ho5
    have h85 := hb5.size
    clear hb5 ho5 hx8
    have k6 := isBlk_new u5 30 [.slice (some ⟨v8.heap.size + 3, 0, none⟩) n0 n0]
    have hb6 := bel_allocN u5 (.cells #[.slice (some ⟨v8.heap.size + 3, 0, none⟩) n0 n0] 30)
    have hs6 := size_alloc u5 (.cells #[.slice (some ⟨v8.heap.size + 3, 0, none⟩) n0 n0] 30)
    have h5R : w.heap.size + 1 < u5.heap.size := by omega
    have h5A : w.heap.size < u5.heap.size := by omega
    go_wp2
    change Code.wp _ _ _ _ (u5.alloc (.cells #[.slice (some ⟨v8.heap.size + 3, 0, none⟩) n0 n0] 30))
    change IsBlk (u5.alloc (.cells #[.slice (some ⟨v8.heap.size + 3, 0, none⟩) n0 n0] 30)) _ _ _ at k6
    generalize u5.alloc (.cells #[.slice (some ⟨v8.heap.size + 3, 0, none⟩) n0 n0] 30) = u6 at k6 hb6 hs6 ⊢
    have HB86 := Lib.hid (HB85.out.trans (hb6.mono HB85.out.size))
    have HB6 := Lib.hid (HB8.out.trans (HB86.out.mono HB8.out.size))
    have HK6 := Lib.hid (HK8.out.below HB86.out HK8.out.lt)
    have HR6 := Lib.hid (HR8.out.below HB86.out HR8.out.lt)
    have HKX6 := Lib.hid k6
    have HOX6 := Lib.hid (HO5.out.below hb6 (Nat.le_refl _))
    have HRX6 := Lib.hid (HOX6.out.rd hb6.size)
    have h56 : u5.heap.size < u6.heap.size := by omega
    clear k6 hb6 hs6 HO5
    go_cut [10] (fun v wx => ∃ b lo hi A c, v = .pointer (some ⟨b, 0, none⟩) ∧ AnBox u6 wx b lo hi A c R)
    case first =>
      have hlt1 : w.heap.size + 1 < u6.heap.size := HR6.out.lt
      go_region_held3 (fun w' => w'.cell? ⟨u5.heap.size, 0, none⟩ = some (.slice (some ⟨v8.heap.size + 3, 0, none⟩) n0 n0) ∧ w'.cell? ⟨w.heap.size + 1, 0, none⟩ = some (.int .i64 r1.k) ∧ w'.cell? ⟨w.heap.size + 1, 1, none⟩ = some (.int .i64 r1.s) ∧ w'.cell? ⟨w.heap.size + 1, 2, none⟩ = some (.int .i64 r1.q) ∧ w'.cell? ⟨w.heap.size + 1, 3, none⟩ = some (.int .i64 r1.t) ∧ w'.cell? ⟨w.heap.size + 1, 4, none⟩ = some (.int .i64 r1.o) ∧ w'.cell? ⟨w.heap.size + 1, 5, none⟩ = some (.string r1.d) ∧ Hid (Below u6.heap.size u6 w'))
        (first | exact hsB | exact hsC | exact app_keep HKX6.out HR6.out (Below.refl _ _).drew | exact app_keep HKX6.out HR6.out ((app_of (by assumption)).alloc (app_of (by assumption)).size _) | exact app_keep HKX6.out HR6.out HKY.out.bel)
        (first
          | (go_at_call 17
             refine (toRec_any r1 _).mono ?_
             rintro e wB ⟨rfl, hbB⟩
             have hsB := app_keep HKX6.out HR6.out ((app_of (by assumption)).trans (hbB.mono (app_of (by assumption)).size))
             have HBB := Lib.hid hbB
             have hzB := (app_of hsB).size
             clear hbB)
          | (go_at_call 18
             refine (HIMPL.out _ n0 _ (bel_step HB6.out (app_of (by assumption))) (HRX6.out.next (app_of (by assumption)))).mono ?_
             rintro e wC ⟨Ag, cw, rfl, hoC, hbC⟩
             have hsC := app_keep HKX6.out HR6.out ((app_of (by assumption)).trans (hbC.mono (app_of (by assumption)).size))
             first
             | (have kW := isBlk_new wB 41 [.slice none 0 0, .string ⟨#[]⟩, .int .i64 0]
                have HKY := Lib.hid (an_first (c := cw) (app_of (by assumption)) hzB kW hoC hbC)
                obtain ⟨d0, d1, d2, fd0, fd1, fd2⟩ := blk3 (kW.below hbC kW.lt)
                clear kW)
             | (have kW := (show IsBlk (u6.alloc (.cells #[.slice none 0 0, .string ⟨#[]⟩, .int .i64 0] 41)).drew u6.heap.size 41 [.slice none 0 0, .string ⟨#[]⟩, .int .i64 0] from isBlk_new u6 41 [.slice none 0 0, .string ⟨#[]⟩, .int .i64 0]).below HBB.out (by simp)
                have HKY := Lib.hid (an_first (c := cw) (app_of (by assumption)) (Nat.le_refl _) kW hoC hbC)
                obtain ⟨d0, d1, d2, fd0, fd1, fd2⟩ := blk3 (kW.below hbC kW.lt)
                clear kW)
             | (have HKY := Lib.hid (an_last (c := cw) (app_of (by assumption)) hoC hbC))
             clear hoC hbC))
      all_goals (go_wp2_with fail; go_meet)
      all_goals exact ⟨_, _, _, Ag, cw, rfl, HKY.out⟩
    case rest =>
      obtain ⟨bg, lg, hg, Ag, cg, rfl, hG⟩ := hcut
      have hGk := hG.blk; have hGo := hG.own
      rw [← HNR.out] at hGk hGo
      have hGb := hG.bel; have hGbl := hGk.lt; have hGhi := hG.at_hi; have hGlo := hG.at_lo; have hGat := hG.at_b; have hGap := hG.apart; have hGll := hG.lo_le
      have HB6v := Lib.hid hGb
      obtain ⟨v10, hv10⟩ : ∃ v10, wc = v10 := ⟨_, rfl⟩
      rw [hv10] at hGk hGo hGbl hGhi hGll HB6v
      have HKG10 := Lib.hid hGk; have HOG10 := Lib.hid hGo
      have HB10 := Lib.hid (HB6.out.trans (HB6v.out.mono HB6.out.size))
      have HB810 := Lib.hid (HB86.out.trans (HB6v.out.mono HB86.out.size))
      have HK10 := Lib.hid (HK6.out.below HB6v.out HK6.out.lt)
      have HR10 := Lib.hid (HR6.out.below HB6v.out HR6.out.lt)
      have HKX10 := Lib.hid (HKX6.out.below HB6v.out HKX6.out.lt)
      have HOX10 := Lib.hid (HOX6.out.below HB6v.out (by omega))
      have HKW10 := Lib.hid (HKW8.out.below HB810.out HKW8.out.lt)
      have HRW10 := Lib.hid (HRW8.out.below HB810.out)
      have h610 : u6.heap.size ≤ v10.heap.size := HB6v.out.size
      clear hG hGk hGo hGb
      rw [hv10]
      clear hv10
      obtain ⟨d0, d1, d2, -, -, -⟩ := blk3 HKG10.out
      obtain ⟨e0, e1, e2, -, -, -⟩ := blk3 HKW10.out
      go_wp2_with fail
      refine (eqNandOut_same Ag Aw nR cg cw R.nd R.data R.code v10 (by omega) HPR.out (HOG10.out.rd hGhi) (HRW10.out.mono (by omega))).mono ?_
      rintro e u11 ⟨rfl, hb11⟩
      have HB11 := Lib.hid hb11
      have h1011 := hb11.size
      have hx11 : u11.cell? ⟨w.heap.size, 0, none⟩ = some (.slice A0 n0 c0) := (HK10.out.below hb11 HK10.out.lt).cell rfl
      have hy11 : u11.cell? ⟨u5.heap.size, 0, none⟩ = some (.slice (some ⟨v8.heap.size + 3, 0, none⟩) n0 n0) := (HKX10.out.below hb11 HKX10.out.lt).cell rfl
      have hlx : w.heap.size < u11.heap.size := by omega
      have hly : u5.heap.size < u11.heap.size := by omega
      clear hb11 d0 d1 d2 e0 e1 e2
      go_wp2
      have HD11 : Hid (Below u11.heap.size u11 u11.drew) := (Below.refl _ _).drew
      have HRR11 : Hid (RdBk u11.drew u11.drew.heap.size A0 n0 X0) := ((HA.out.next HB10.out).next HB11.out).next HD11.out
      have HOX11 : Hid (OwNd u11 v8.heap.size u5.heap.size (some ⟨v8.heap.size + 3, 0, none⟩) n0 X0) := HOX10.out.below HB11.out (by omega)
      go_region_held3 (fun w' => w'.cell? ⟨w.heap.size, 0, none⟩ = some (.slice A0 n0 c0) ∧ w'.cell? ⟨u5.heap.size, 0, none⟩ = some (.slice (some ⟨v8.heap.size + 3, 0, none⟩) n0 n0))
        (first | exact ⟨hx11, hy11⟩ | exact hsa | exact hsb | go_keep)
        (first
          | (go_at_call 8
             refine (toNand_any A0 n0 c0 X0 u11.drew (by omega) HPL.out HRR11.out).mono ?_
             rintro e ua ⟨rfl, hoa, hba⟩
             have hsa : ua.cell? ⟨w.heap.size, 0, none⟩ = some (.slice A0 n0 c0) ∧ ua.cell? ⟨u5.heap.size, 0, none⟩ = some (.slice (some ⟨v8.heap.size + 3, 0, none⟩) n0 n0) :=
               ⟨(hba.cell (p := ⟨w.heap.size, 0, none⟩) hlx).trans hx11, (hba.cell (p := ⟨u5.heap.size, 0, none⟩) hly).trans hy11⟩
             have HBa := Lib.hid (HD11.out.trans hba)
             have HOa := Lib.hid hoa
             clear hoa hba)
          | (go_at_call 11
             refine (eqNand_same _ _ n0 n0 n0 X0 _ (by omega) HPL.out ((HOX11.out.below HBa.out (by omega)).rd (by have := HBa.out.size; omega)) (HOa.out.rd (Nat.le_refl _))).mono ?_
             rintro e ub ⟨rfl, hbb⟩
             have HBb := Lib.hid (HBa.out.trans (hbb.mono HBa.out.size))
             have hsb : ub.cell? ⟨w.heap.size, 0, none⟩ = some (.slice A0 n0 c0) ∧ ub.cell? ⟨u5.heap.size, 0, none⟩ = some (.slice (some ⟨v8.heap.size + 3, 0, none⟩) n0 n0) :=
               ⟨(HBb.out.cell (p := ⟨w.heap.size, 0, none⟩) hlx).trans hx11, (HBb.out.cell (p := ⟨u5.heap.size, 0, none⟩) hly).trans hy11⟩
             clear hbb))
      all_goals
        have HBvb : Hid (Below v10.heap.size v10 ub) := HB11.out.trans (HBb.out.mono HB11.out.size)
        have hvb := HBvb.out.size
        have hyb : ub.cell? ⟨u5.heap.size, 0, none⟩ = some (.slice (some ⟨v8.heap.size + 3, 0, none⟩) n0 n0) := hsb.2
        clear hsb hx11 hy11 hlx hly HRR11 HOX11 HD11
        go_wp2_with fail
        refine (markNand_any _ v8.heap.size u5.heap.size n0 n0 1 X0 ub (by omega) HKX.out (by omega) (HOX10.out.below HBvb.out (by omega))).mono ?_
        rintro e um ⟨rfl, -, hbm⟩
        have hbmv : Btw v8.heap.size u5.heap.size v10 um := (Btw.of_below HBvb.out).trans hbm
        have hvm := hbmv.size
        have HBm : Hid (Below w.heap.size w um) := HB10.out.trans ((hbmv.below (by omega)).mono HB8.out.size)
        have HKm : Hid (IsBlk um w.heap.size 24 [.slice A0 n0 c0]) := (hbmv.block _ HK10.out.lt (by omega)).trans HK10.out
        have HRm : Hid (IsBlk um (w.heap.size + 1) 38 (recC r1)) := (hbmv.block _ HR10.out.lt (by omega)).trans HR10.out
        have HKWm : Hid (IsBlk um bw 41 [.slice Aw nR cw, .string R.data, .int .i64 R.code]) := (hbmv.block _ HKW10.out.lt (by omega)).trans HKW10.out
        have HKGm : Hid (IsBlk um bg 41 [.slice Ag nR cg, .string R.data, .int .i64 R.code]) := (hbmv.block _ HKG10.out.lt (by omega)).trans HKG10.out
        have HRWm := Lib.hid (HRW10.out.btw hbmv (Nat.le_refl _) (by omega))
        have HOGm := Lib.hid (HOG10.out.btw hbmv (by omega) (by omega))
        obtain ⟨d0, d1, d2, -, -, -⟩ := blk3 HKGm.out
        obtain ⟨e0, e1, e2, -, -, -⟩ := blk3 HKWm.out
        clear hbm hbmv hyb
        go_wp2_with fail
        refine (eqNandOut_same Ag Aw nR cg cw R.nd R.data R.code um (by omega) HPR.out (HOGm.out.rd (by omega)) (HRWm.out.mono (by omega))).mono ?_
        rintro e un ⟨rfl, hbn⟩
        have HBn := Lib.hid hbn
        have hmn := hbn.size
        clear d0 d1 d2 e0 e1 e2
        obtain ⟨d0, d1, d2, -, -, -⟩ := blk3 (HKGm.out.below hbn HKGm.out.lt)
        clear hbn
        go_wp2_with fail
        refine (markNandOut_any Ag lg hg nR cg 1 R.nd R.data R.code un (by omega) HKR.out (by omega) (HOGm.out.below HBn.out (by omega))).mono ?_
        rintro e up ⟨rfl, hmk, hbp⟩
        have hbmp : Btw lg hg um up := (Btw.of_below HBn.out).trans hbp
        have hmp := hbmp.size
        have HBp : Hid (Below w.heap.size w up) := HBm.out.trans ((hbmp.below (by omega)).mono (by omega))
        have HKp : Hid (IsBlk up w.heap.size 24 [.slice A0 n0 c0]) := (hbmp.block _ HKm.out.lt (by omega)).trans HKm.out
        have HRp : Hid (IsBlk up (w.heap.size + 1) 38 (recC r1)) := (hbmp.block _ HRm.out.lt (by omega)).trans HRm.out
        have HKWp : Hid (IsBlk up bw 41 [.slice Aw nR cw, .string R.data, .int .i64 R.code]) := (hbmp.block _ HKWm.out.lt (by omega)).trans HKWm.out
        have HKGp : Hid (IsBlk up bg 41 [.slice Ag nR cg, .string R.data, .int .i64 R.code]) := (hbmp.block _ HKGm.out.lt (by omega)).trans HKGm.out
        have HRWp := Lib.hid (HRWm.out.btw hbmp (by omega) (by omega))
        have HMKp := Lib.hid hmk
        clear hbp hbmp hmk d0 d1 d2
        obtain ⟨d0, d1, d2, -, -, -⟩ := blk3 HKGp.out
        go_wp2_with fail
        refine (heldNandOut_any Ag lg hg nR cg 1 R.nd R.data R.code up (by omega) HKR.out (by omega) HMKp.out).mono ?_
        rintro e uq ⟨rfl, hbq⟩
        have HBpq := Lib.hid hbq
        have hpq := hbq.size
        have HBq := Lib.hid (HBp.out.trans (hbq.mono HBp.out.size))
        have HKq := Lib.hid (HKp.out.below hbq HKp.out.lt)
        have HRq := Lib.hid (HRp.out.below hbq HRp.out.lt)
        clear hbq d0 d1 d2
        go_wp2
        go_cut [14] (fun v wx => ∃ b lo hi A c, v = .pointer (some ⟨b, 0, none⟩) ∧ AnBox uq wx b lo hi A c R)
        case first =>
          have hlt0 : w.heap.size < uq.heap.size := HKq.out.lt
          have hlt1 : w.heap.size + 1 < uq.heap.size := HRq.out.lt
          have HAq := Lib.hid (HA.out.next HBq.out)
          go_region_held3 (fun w' => w'.cell? ⟨w.heap.size, 0, none⟩ = some (.slice A0 n0 c0) ∧ w'.cell? ⟨w.heap.size + 1, 0, none⟩ = some (.int .i64 r1.k) ∧ w'.cell? ⟨w.heap.size + 1, 1, none⟩ = some (.int .i64 r1.s) ∧ w'.cell? ⟨w.heap.size + 1, 2, none⟩ = some (.int .i64 r1.q) ∧ w'.cell? ⟨w.heap.size + 1, 3, none⟩ = some (.int .i64 r1.t) ∧ w'.cell? ⟨w.heap.size + 1, 4, none⟩ = some (.int .i64 r1.o) ∧ w'.cell? ⟨w.heap.size + 1, 5, none⟩ = some (.string r1.d) ∧ Hid (Below uq.heap.size uq w'))
            (first | exact hsA | exact hsB | exact hsC | exact app_keep HKq.out HRq.out (Below.refl _ _).drew | exact app_keep HKq.out HRq.out ((app_of (by assumption)).alloc (app_of (by assumption)).size _) | exact app_keep HKq.out HRq.out HKY.out.bel)
            (first
              | (go_at_call 8
                 refine (toNand_any A0 n0 c0 X0 _ (by omega) HPL.out (HAq.out.next (app_of (by assumption)))).mono ?_
                 rintro e wA ⟨rfl, hoA, hbA⟩
                 have hsA := app_keep HKq.out HRq.out ((app_of (by assumption)).trans (hbA.mono (app_of (by assumption)).size))
                 have HRDA := Lib.hid (hoA.rd (Nat.le_refl _))
                 have HBA := Lib.hid hbA
                 have hzA := (app_of hsA).size
                 clear hoA hbA)
              | (go_at_call 17
                 refine (toRec_any r1 _).mono ?_
                 rintro e wB ⟨rfl, hbB⟩
                 have hsB := app_keep HKq.out HRq.out ((app_of (by assumption)).trans (hbB.mono (app_of (by assumption)).size))
                 have HBB := Lib.hid hbB
                 have hzB := (app_of hsB).size
                 clear hbB)
              | (go_at_call 18
                 refine (HIMPL.out _ n0 _ (bel_step HBq.out (app_of (by assumption))) ?_).mono ?_
                 · first
                   | exact HRDA.out
                   | exact HRDA.out.next (bel_allocN _ _)
                   | exact HRDA.out.next HBB.out
                   | exact (HRDA.out.next HBB.out).next (bel_allocN _ _)
                   | exact (HRDA.out.next (bel_allocN _ _)).next HBB.out
                   | simpa using HRDA.out
                   | simpa using HRDA.out.next HBB.out
                 rintro e wC ⟨Ah, cw, rfl, hoC, hbC⟩
                 have hsC := app_keep HKq.out HRq.out ((app_of (by assumption)).trans (hbC.mono (app_of (by assumption)).size))
                 first
                 | (have kW := isBlk_new wA 41 [.slice none 0 0, .string ⟨#[]⟩, .int .i64 0]
                    have HKY := Lib.hid (an_first (c := cw) (app_of (by assumption)) hzA kW hoC hbC)
                    obtain ⟨d0, d1, d2, fd0, fd1, fd2⟩ := blk3 (kW.below hbC kW.lt)
                    clear kW)
                 | (have kW := isBlk_new wB 41 [.slice none 0 0, .string ⟨#[]⟩, .int .i64 0]
                    have HKY := Lib.hid (an_first (c := cw) (app_of (by assumption)) hzB kW hoC hbC)
                    obtain ⟨d0, d1, d2, fd0, fd1, fd2⟩ := blk3 (kW.below hbC kW.lt)
                    clear kW)
                 | (have kW := ((show IsBlk (uq.alloc (.cells #[.slice none 0 0, .string ⟨#[]⟩, .int .i64 0] 41)).drew uq.heap.size 41 [.slice none 0 0, .string ⟨#[]⟩, .int .i64 0] from isBlk_new uq 41 [.slice none 0 0, .string ⟨#[]⟩, .int .i64 0]).below HBA.out (by simp)).below HBB.out (by have := HBA.out.size; simp at this; omega)
                    have HKY := Lib.hid (an_first (c := cw) (app_of (by assumption)) (Nat.le_refl _) kW hoC hbC)
                    obtain ⟨d0, d1, d2, fd0, fd1, fd2⟩ := blk3 (kW.below hbC kW.lt)
                    clear kW)
                 | (have kW := ((show IsBlk (uq.alloc (.cells #[.slice none 0 0, .string ⟨#[]⟩, .int .i64 0] 41)).drew uq.heap.size 41 [.slice none 0 0, .string ⟨#[]⟩, .int .i64 0] from isBlk_new uq 41 [.slice none 0 0, .string ⟨#[]⟩, .int .i64 0]).below HBB.out (by simp)).below HBA.out (by have := HBB.out.size; simp at this; omega)
                    have HKY := Lib.hid (an_first (c := cw) (app_of (by assumption)) (Nat.le_refl _) kW hoC hbC)
                    obtain ⟨d0, d1, d2, fd0, fd1, fd2⟩ := blk3 (kW.below hbC kW.lt)
                    clear kW)
                 | (have kW := (isBlk_new wA 41 [.slice none 0 0, .string ⟨#[]⟩, .int .i64 0]).below HBB.out (by simp)
                    have HKY := Lib.hid (an_first (c := cw) (app_of (by assumption)) hzA kW hoC hbC)
                    obtain ⟨d0, d1, d2, fd0, fd1, fd2⟩ := blk3 (kW.below hbC kW.lt)
                    clear kW)
                 | (have kW := (isBlk_new wB 41 [.slice none 0 0, .string ⟨#[]⟩, .int .i64 0]).below HBA.out (by simp)
                    have HKY := Lib.hid (an_first (c := cw) (app_of (by assumption)) hzB kW hoC hbC)
                    obtain ⟨d0, d1, d2, fd0, fd1, fd2⟩ := blk3 (kW.below hbC kW.lt)
                    clear kW)
                 | (have HKY := Lib.hid (an_last (c := cw) (app_of (by assumption)) hoC hbC))
                 clear hoC hbC))
          all_goals (go_wp2_with fail; go_meet)
          all_goals exact ⟨_, _, _, Ah, cw, rfl, HKY.out⟩
        case rest =>
          obtain ⟨bh, lh, hh, Ah, ch, rfl, hH⟩ := hcut
          have hHk := hH.blk; have hHo := hH.own
          rw [← HNR.out] at hHk hHo
          have hHb := hH.bel; have hHhi := hH.at_hi
          have HBps := Lib.hid (HBpq.out.trans (hHb.mono HBpq.out.size))
          have HRH := Lib.hid (hHo.rd hHhi)
          have HBs := Lib.hid (HBp.out.trans (HBps.out.mono HBp.out.size))
          obtain ⟨d0, d1, d2, -, -, -⟩ := blk3 hHk
          obtain ⟨e0, e1, e2, -, -, -⟩ := blk3 (HKWp.out.below HBps.out HKWp.out.lt)
          have hps := HBps.out.size
          clear hH hHk hHo hHb hHhi
          go_wp2_with fail
          refine (eqNandOut_same Ah Aw nR ch cw R.nd R.data R.code wc (by omega) HPR.out HRH.out ((HRWp.out.below (HBps.out.mono (by omega))).mono (by omega))).mono ?_
          rintro e uu ⟨rfl, hbu⟩
          have HBpu : Hid (Below up.heap.size up uu) := HBps.out.trans (hbu.mono HBps.out.size)
          have hpu := HBpu.out.size
          clear hbu d0 d1 d2 e0 e1 e2
          obtain ⟨d0, d1, d2, -, -, -⟩ := blk3 (HKGp.out.below HBpu.out HKGp.out.lt)
          go_wp2_with fail
          refine (heldNandOut_any Ag lg hg nR cg 1 R.nd R.data R.code uu (by omega) HKR.out (by omega) (HMKp.out.below HBpu.out (by omega))).mono ?_
          rintro e uv ⟨rfl, hbv⟩
          have HBv := Lib.hid (HBp.out.trans ((HBpu.out.trans (hbv.mono HBpu.out.size)).mono HBp.out.size))
          clear hbv d0 d1 d2
          go_wp2
          go_ret
          exact ⟨rfl, HBv.out⟩

set_option maxHeartbeats 1000000 in
set_option maxRecDepth 100000 in
theorem lifted (os : Os) (started : os.Started) (H : Type) (enc : TypeId × Value → H) :
    ReturnsInHanded {} Tryd.checked os 4 .any (fun w args => (Rows.fnExactAppendSpec.pre enc Tryd.prog Tryd.f4 [] false w args ∧ laidMetH Tryd.prog Rows.fnExactAppendRow.laid w) ∧ sizedMet enc Tryd.prog Tryd.f4 (OpenSpec.ofChange Rows.fnExactAppendSpec) false w args)
      (Rows.fnExactAppendSpec.post enc Tryd.prog Tryd.f4 false true false false) := by
  refine returnsInHanded_of_change_and (C := Tryd.checked) (X := fun w _ => laidMetH Tryd.prog Rows.fnExactAppendRow.laid w) (fun _ _ _ hh h => h.of_heap hh) own started (by kernel_rfl) Tryd.func4
    (ChangeSpec.witness_at (enc := enc) (C := Tryd.checked) (os := os) (X := fun w _ => laidMetH Tryd.prog Rows.fnExactAppendRow.laid w) false (laidWorld os) #[.agg #[.slice none 0 0], .agg #[.int .i64 0, .int .i64 0, .int .i64 0, .int .i64 0, .int .i64 0, .string ByteArray.empty], .int .i64 0] 8 rfl (by kernel_rfl) (by kernel_rfl) (by kernel_rfl) (by kernel_rfl) (by kernel_rfl) (laidWorld_met os _)) ?_
  intro W base args ds gs before hval0 hW _ _ hL _
  have hval : ∀ (j : Nat) t v, Tryd.f4.params[j]? = some t → args[j]? = some v → Value.okWide Tryd.prog W .any base t v := hval0
  have hW' := hW
  obtain ⟨p, q, hA0, hV0, rfl, hfz, hnd⟩ := hW
  have hA : DataW.TrodAll enc Tryd.prog W 0 (fun _ => true) true Tryd.f4.params.toList args.toList ds p := hA0
  have hV : DataW.TrodVars enc Tryd.prog W (fun _ => true) [nInv, nRoom, nHist] gs q := hV0
  rw [Tryd.params4] at hA hval
  obtain ⟨v0, vs0, d0, ds0, p0, q0, hargs, rfl, rfl, h0, z0⟩ := trodAll_cons hA
  obtain ⟨v1, vs1, d1, ds1, p1, q1, rfl, rfl, rfl, h1, z1⟩ := trodAll_cons z0
  obtain ⟨v2, vs2, d2, ds2, p2, q2, rfl, rfl, rfl, h2, z2⟩ := trodAll_cons z1
  obtain ⟨rfl, rfl, rfl⟩ := trodAll_nil z2
  obtain rfl : args = #[v0, v1, v2] := by cases args; simp_all
  obtain ⟨a0', a1', a2', hS, g0, g1, g2⟩ := sents_of_laid hL
  have vr : ∀ {X : World}, Below W.heap.size W X → ∀ sp : Nat → Bool, DataW.TrodVars enc Tryd.prog X sp [nInv, nRoom, nHist] [tok enc (.iface 177 (.pointer (some a0'))), tok enc (.iface 177 (.pointer (some a1'))), tok enc (.iface 177 (.pointer (some a2')))] [.cell 0 0, .cell 1 0, .cell 2 0] :=
    fun hb sp => vars_read3 enc (var_below g0 hb) trivial (var_below g1 hb) trivial (var_below g2 hb) trivial sp
  obtain ⟨rfl, rfl⟩ := hV.unique (vr (Below.refl _ _) _)
  have k0 := h0
  have lt0 : ∀ x ∈ p0, x.block < W.heap.size := by obtain ⟨m, hm⟩ := k0; exact DataW.trod_lt m _ _ _ hm
  obtain ⟨A0, n0, c0, X0, rfl, w0, x0⟩ := open_lawsNand (hval 0 24 v0 rfl rfl) h0
  have k1 := h1
  have lt1 : ∀ x ∈ p1, x.block < W.heap.size := by obtain ⟨m, hm⟩ := k1; exact DataW.trod_lt m _ _ _ hm
  obtain ⟨r1, rfl, w1⟩ := open_lawsRec (hval 1 38 v1 rfl rfl) h1
  obtain ⟨a2, rfl, rfl, rfl, w2⟩ := open_int Tryd.underlying2 (hval 2 2 v2 rfl rfl) h2
  clear hA0 hV0 hval0
  refine (walk A0 n0 c0 X0 r1 a2 W w0 x0 w1 w2 a0' a1' a2' hS).mono fun e W' ⟨he, bel⟩ => ?_
  subst he
  exact ⟨_, rfl, _, _, _, [], _, _, hW', trodAll_mk1 (shut_bool Tryd.underlying4 _), (trodAll_cons_mk (Below.trod laidOut (by kernel_rfl) (of_decide_eq_true (by kernel_rfl)) k0 bel lt0) (trodAll_cons_mk (Below.trod laidOut (by kernel_rfl) (of_decide_eq_true (by kernel_rfl)) k1 bel lt1) (trodAll_cons_mk (shut_int Tryd.underlying2 w2) trodAll_mk0))), vr bel _, bel.frame _, fun h => by cases h⟩

theorem over : Rows.FnExactAppendSaid :=
  OpenClaim.holds_of_wide 4 Tryd.f4 rfl rfl rfl rfl rfl rfl rfl ⟨rfl, rfl, rfl, rfl, rfl⟩ rfl rfl rfl rfl rfl (by kernel_rfl) Tryd.func4 (by kernel_rfl)
    (of_decide_eq_true (by kernel_rfl)) (by unfold Func.isWrapper; rw [if_neg (of_decide_eq_false (by kernel_rfl))]; exact ⟨rfl, rfl⟩)
    (fun os started H enc _ => lifted os started H enc)

theorem proved : Rows.FnExactAppendCardSaid :=
  Claim7.holds_tied_plain_at .later [] [.sentinel, .sentinel, .sentinel] true (true, "26189126acd36935fd14988a377236bcc50269f39156151f395d7f585c1d94d5") true
    over (fun _ h => by cases h) (by kernel_rfl) (fun _ h => by cases h) fnExactAppend_row_tie rfl ⟨rfl, rfl⟩ (by kernel_rfl) rfl
    (fun f fn hf hfn => by
      obtain rfl : f = 4 := Option.some.inj ((show Tryd.prog.funcNamed "loop.example/g00637/laws.FnExactAppend" = some 4 by kernel_rfl).symm.trans hf) |>.symm
      obtain rfl : fn = Tryd.f4 := (Option.some.inj (Tryd.func4.symm.trans hfn)).symm
      exact ⟨by kernel_rfl, fun j t ht => by
        rw [Tryd.params4] at ht
        have h3 : t = 2 ∨ t = 24 ∨ t = 38 := by
          rcases j with _ | _ | _ | j
          all_goals first | (simp at ht; subst ht; simp) | (simp at ht)
        rcases h3 with rfl | rfl | rfl
        · exact (show Tryd.prog.wantsStandIn 2 = false by kernel_rfl)
        · exact (show Tryd.prog.wantsStandIn 24 = false by kernel_rfl)
        · exact (show Tryd.prog.wantsStandIn 38 = false by kernel_rfl)⟩)
    (by kernel_rfl)
#print axioms proved
end Go.Proofs.YtimlaeicbnnbdaaDoor.fnExactAppend
