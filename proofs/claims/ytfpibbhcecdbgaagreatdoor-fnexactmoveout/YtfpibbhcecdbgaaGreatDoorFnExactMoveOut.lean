/-
  For every chip, every block and every number of steps, the law FnExactMoveOut returns true: the program's MoveOut answers as the document's, every field; it writes into no argument; its answer owns its memory; and the arguments read afterwards as before. The library's variable errors.errorType and the program's errInvalid, errNoRoom and errNoHistory read as their text lays them (a tied card).
-/
import Derived.Test.YtfpibbhcecdbgaaGreatDoorRows
import Derived.Test.YtfpibbhcecdbgaaGreatDoorTie
import Derived.Test.YtfpibbhcecdbgaaGreatDoorCards
import Derived.Test.YtfpibbhcecdbgaaGreatDoorMgGc
import Derived.Test.YtfpibbhcecdbgaaGreatDoorMgNd
import Derived.Test.YtfpibbhcecdbgaaGreatDoorMgChip
import Derived.Test.YtfpibbhcecdbgaaGreatDoorMgLev
import Derived.Deep.RegionHeld3
import Derived.WalkKit
import Derived.ProofKit
import Derived.OpenShut
import Derived.ShutString
import Derived.ChangeOld
import Derived.ChangeSame
import Derived.ChangeVars
import Derived.JoinedOf
import Derived.RowKitTokens
import Derived.LaidLaws
import Derived.LaidHandle
import Derived.Stop.Joined
import Derived.SevenTiedAt
import Derived.Below
namespace Go.Proofs.YtfpibbhcecdbgaaGreatDoor.fnExactMoveOut
open Go.ChangeShapes Go.WideShapes Go.ChangeAt Go.RowKit
open Go.ChangeMaps (open_string shut_string)
set_option linter.unusedVariables false

theorem own : ownKnob Tryz.prog.godebug = none := by kernel_rfl
theorem laidOut : laidOutB Tryz.prog = true := by kernel_rfl

noncomputable abbrev laidWorld (os : Os) : World := bothWorld os ⟨#[97, 110, 32, 97, 114, 103, 117, 109, 101, 110, 116, 32, 105, 115, 32, 105, 110, 118, 97, 108, 105, 100]⟩ ⟨#[116, 104, 101, 114, 101, 32, 105, 115, 32, 110, 111, 32, 98, 108, 111, 99, 107, 32, 102, 111, 114, 32, 116, 104, 101, 32, 110, 101, 120, 116, 32, 112, 97, 103, 101]⟩ ⟨#[116, 104, 101, 32, 114, 101, 99, 111, 114, 100, 115, 32, 97, 114, 101, 32, 110, 111, 32, 118, 97, 108, 105, 100, 32, 104, 105, 115, 116, 111, 114, 121]⟩
theorem laidWorld_met (os : Os) (args : Array Value) : laidMetH Tryz.prog Rows.fnExactMoveOutRow.laid ((laidWorld os).forCall (fun _ _ => 0) ⟨#[], args, []⟩).memory :=
  laidMetH_of_parts (laidMet_of_run' 8 (by kernel_rfl) (by kernel_rfl)) (by kernel_rfl)

set_option maxHeartbeats 8000000 in
set_option maxRecDepth 100000 in
theorem walk (A0 : Option Addr) (n0 c0 : Nat) (X0 : List Bk) (a1 : Int) (a2 : Int) (w : World) (w0 : RdBk w w.heap.size A0 n0 X0) (x0 : Wide X0) (w1 : (Lit.int .i64 a1).wf = true) (w2 : (Lit.int .i64 a2).wf = true) (hG : ErrType w) (a0' a1' a2' : Addr) (hS : Sents w a0' a1' a2') :
    Calls Tryz.prog 3 #[.agg #[.slice A0 n0 c0], .int .i64 a1, .int .i64 a2] w fun e w' => e = .returned (.bool true) ∧ Below w.heap.size w w' := by
  have HA := Lib.hid w0; have HX := Lib.hid x0; have HGe := Lib.hid hG; have HSe := Lib.hid hS; clear w0 x0 hG hS
  have hst : a2 ≤ 9223372036854775807 := by have h := w2; simp [Lit.wf] at h; omega
  go_enter Tryz.func3, Tryz.ntmps3
  go_wp2_with fail
  have hb0 : Below w.heap.size w (w.alloc (.cells #[.slice A0 n0 c0] 24)) := (Below.refl _ _).alloc (Nat.le_refl _) _
  have k0 := isBlk_new w 24 [.slice A0 n0 c0]
  change Calls _ _ _ (w.alloc (.cells #[.slice A0 n0 c0] 24)) _
  generalize w.alloc (.cells #[.slice A0 n0 c0] 24) = U0 at hb0 k0 ⊢
  refine (szNand_any A0 n0 c0 X0 1048576 U0 (by omega) (by omega) HX.out ((HA.out.below hb0).mono hb0.size)).mono ?_
  rintro e u1 ⟨rfl, hb1⟩
  have HB1 := Lib.hid (hb0.trans (hb1.mono hb0.size))
  have HK1 := Lib.hid (k0.below hb1 k0.lt)
  have hx1 : u1.cell? ⟨w.heap.size, 0, none⟩ = some (.slice A0 n0 c0) := HK1.out.cell rfl
  clear hb1 hb0 k0
  by_cases hs : ((szBks X0 : Nat) : Int) ≤ 1048576
  case neg =>
    have hz := szR_no (t := szBks X0) (left := 1048576) (by omega)
    go_wp2
    go_ret
    exact ⟨rfl, HB1.out⟩
  have hz := szR_ok hs
  have hnn : 0 ≤ 1048576 - ((szBks X0 : Nat) : Int) := by omega
  have HSM := Lib.hid (small_of_sz (X := X0) (by omega))
  have HL0 := Lib.hid HA.out.1
  have hnl : n0 ≤ 1048576 := by have := HSM.out.1; have := HL0.out; omega
  have HPL : Hid (∀ b ∈ X0, b.pages.length ≤ 2147483648) := fun b hb => by have := (HSM.out.2 b hb).1; omega
  have HKX : Hid (kAt X0 1 n0 ≤ 16777216) := by show kAt X0 1 n0 ≤ 16777216; rw [← HL0.out]; exact sz_kAt (by omega)
  obtain ⟨R, hR⟩ : ∃ R, R = movAns X0 a1 a2 := ⟨_, rfl⟩
  have HFEW : Hid (Few R.nd) := by show Few R.nd; rw [hR]; exact movAns_few X0 a1 a2
  have HSPEC : Hid (∀ (A : Option Addr) (c : Nat) (W : World), RdBk W W.heap.size A n0 X0 → Calls Tryz.prog 11 #[.agg #[.slice A n0 c], .int .i64 a1, .int .i64 a2] W (RetAns W R)) := fun A c W h => by rw [hR]; exact spec_moveOut A n0 c X0 a1 a2 W HSM.out h
  have HIMPL : Hid (∀ (A : Option Addr) (c : Nat) (W : World), Below w.heap.size w W → RdBk W W.heap.size A n0 X0 → Calls Tryz.prog 13 #[.agg #[.slice A n0 c], .int .i64 a1, .int .i64 a2] W (RetAns W R)) := fun A c W hb h => by rw [hR]; exact impl_moveOut A n0 c X0 a1 a2 a0' a1' a2' W (HGe.out.below hb) (HSe.out.below hb) HSM.out h hst
  obtain ⟨nR, hnR⟩ : ∃ nR, nR = R.nd.length := ⟨_, rfl⟩
  have HNR := Lib.hid hnR
  have hnR12 : nR ≤ 12 := by rw [hnR]; exact HFEW.out.1
  have HPR : Hid (∀ b ∈ R.nd, b.pages.length ≤ 2147483648) := fun b hb => by have := HFEW.out.2 b hb; omega
  have HKR : Hid (kAt R.nd 1 nR ≤ 16777216) := by show kAt R.nd 1 nR ≤ 16777216; rw [hnR]; exact few_kAt HFEW.out
  clear hR hnR
  go_wp2_with fail
  refine (toNand_any A0 n0 c0 X0 u1 (by omega) HPL.out ((HA.out.below HB1.out).mono HB1.out.size)).mono ?_
  rintro e u2 ⟨rfl, ho2, hb2⟩
  have HB2 := Lib.hid (bel_step HB1.out hb2)
  have HK2 := Lib.hid (HK1.out.below hb2 HK1.out.lt)
  have HO2 := Lib.hid ho2
  clear hb2 ho2 hx1
  go_wp2_with fail
  refine (HSPEC.out _ n0 u2 (HO2.out.rd (Nat.le_refl _))).mono ?_
  rintro e u3 ⟨Aw, cw, rfl, ho3, hb3⟩
  rw [← HNR.out] at ho3 ⊢
  have HB3 := Lib.hid (bel_step HB2.out hb3)
  have HK3 := Lib.hid (HK2.out.below hb3 HK2.out.lt)
  have HO3 := Lib.hid ho3
  have h23 := hb3.size
  have hx3 : u3.cell? ⟨w.heap.size, 0, none⟩ = some (.slice A0 n0 c0) := HK3.out.cell rfl
  have hl3 := HK3.out.lt
  clear hb3 ho3 HO2 HSPEC
  go_wp2_with fail
  have k4 := isBlk_new u3 30 [.slice Aw nR cw, .string R.data, .int .i64 R.code]
  have hb4 := box_below u3 (.cells #[.slice Aw nR cw, .string R.data, .int .i64 R.code] 30)
  have hs4 := size_alloc u3 (.cells #[.slice Aw nR cw, .string R.data, .int .i64 R.code] 30)
  change Calls _ _ _ (u3.alloc (.cells #[.slice Aw nR cw, .string R.data, .int .i64 R.code] 30)) _
  generalize u3.alloc (.cells #[.slice Aw nR cw, .string R.data, .int .i64 R.code] 30) = u4 at k4 hb4 hs4 ⊢
  have HB4 := Lib.hid (bel_step HB3.out hb4)
  refine (toNand_any A0 n0 c0 X0 u4 (by omega) HPL.out ((HA.out.below HB4.out).mono HB4.out.size)).mono ?_
  rintro e u5 ⟨rfl, ho5, hb5⟩
  have HB5 := Lib.hid (bel_step HB4.out hb5)
  have HK5 := Lib.hid ((HK3.out.below hb4 HK3.out.lt).below hb5 (Nat.lt_of_lt_of_le HK3.out.lt hb4.size))
  have HKW5 := Lib.hid (k4.below hb5 k4.lt)
  have HOW5 := Lib.hid ((HO3.out.below hb4 (Nat.le_refl _)).below hb5 hb4.size)
  have HO5 := Lib.hid ho5
  have h34 : u3.heap.size + 1 = u4.heap.size := hs4.symm
  have H34 := Lib.hid h34
  have h34' : u3.heap.size < u4.heap.size := by omega
  have h45 := hb5.size
  clear hb5 ho5 hb4 hs4 k4 h34 hx3 HO3
  go_wp2_with fail
  have k6 := isBlk_new u5 28 [.slice (some ⟨u4.heap.size + 3, 0, none⟩) n0 n0]
  have hb6 := box_below u5 (.cells #[.slice (some ⟨u4.heap.size + 3, 0, none⟩) n0 n0] 28)
  have hs6 := size_alloc u5 (.cells #[.slice (some ⟨u4.heap.size + 3, 0, none⟩) n0 n0] 28)
  change Calls _ _ _ (u5.alloc (.cells #[.slice (some ⟨u4.heap.size + 3, 0, none⟩) n0 n0] 28)) _
  generalize u5.alloc (.cells #[.slice (some ⟨u4.heap.size + 3, 0, none⟩) n0 n0] 28) = u6 at k6 hb6 hs6 ⊢
  refine (HIMPL.out _ n0 u6 (bel_step HB5.out hb6) ((HO5.out.below hb6 (Nat.le_refl _)).rd hb6.size)).mono ?_
  rintro e u7 ⟨Ag, cg, rfl, ho7, hb7⟩
  rw [← HNR.out] at ho7 ⊢
  have HB57 := Lib.hid (hb6.trans (hb7.mono hb6.size))
  have HB7 := Lib.hid (bel_step HB5.out HB57.out)
  have HK7 := Lib.hid (HK5.out.below HB57.out HK5.out.lt)
  have HKW7 := Lib.hid (HKW5.out.below HB57.out HKW5.out.lt)
  have HKX7 := Lib.hid (k6.below hb7 k6.lt)
  have HOW7 := Lib.hid (HOW5.out.below HB57.out (by omega))
  have HOX7 := Lib.hid (HO5.out.below HB57.out (Nat.le_refl _))
  have HOG7 := Lib.hid ho7
  have h56 : u5.heap.size < u6.heap.size := by omega
  have h67 := hb7.size
  clear hb6 hb7 k6 hs6 ho7 HOW5 HO5
  have h37 : u3.heap.size < u7.heap.size := HKW7.out.lt
  obtain ⟨e0, e1, e2, -, -, -⟩ := blk3 HKW7.out
  go_wp2_with fail
  clear e0 e1 e2
  have k8 := isBlk_new u7 30 [.slice Ag nR cg, .string R.data, .int .i64 R.code]
  have hb8 := box_below u7 (.cells #[.slice Ag nR cg, .string R.data, .int .i64 R.code] 30)
  have hs8 := size_alloc u7 (.cells #[.slice Ag nR cg, .string R.data, .int .i64 R.code] 30)
  change Calls _ _ _ (u7.alloc (.cells #[.slice Ag nR cg, .string R.data, .int .i64 R.code] 30)) _
  generalize u7.alloc (.cells #[.slice Ag nR cg, .string R.data, .int .i64 R.code] 30) = u8 at k8 hb8 hs8 ⊢
  have h78 : u7.heap.size < u8.heap.size := by omega
  have HB8 := Lib.hid (bel_step HB7.out hb8)
  have HK8 := Lib.hid (HK7.out.below hb8 HK7.out.lt)
  have HKW8 := Lib.hid (HKW7.out.below hb8 HKW7.out.lt)
  have HKX8 := Lib.hid (HKX7.out.below hb8 HKX7.out.lt)
  have HKG8 := Lib.hid k8
  have HOW8 := Lib.hid (HOW7.out.below hb8 (by omega))
  have HOX8 := Lib.hid (HOX7.out.below hb8 (by omega))
  have HOG8 := Lib.hid (HOG7.out.below hb8 (Nat.le_refl _))
  clear k8 hb8 hs8 HK7 HKW7 HKX7 HOW7 HOX7 HOG7 HB57
  refine (eqNandOut_same Ag Aw nR cg cw R.nd R.data R.code u8 (by omega) HPR.out (HOG8.out.rd (by omega)) (HOW8.out.rd (by omega))).mono ?_
  rintro e u9 ⟨rfl, hb9⟩
  have HB89 := Lib.hid hb9
  have hx9 : u9.cell? ⟨w.heap.size, 0, none⟩ = some (.slice A0 n0 c0) := (HK8.out.below hb9 HK8.out.lt).cell rfl
  have hy9 : u9.cell? ⟨u5.heap.size, 0, none⟩ = some (.slice (some ⟨u4.heap.size + 3, 0, none⟩) n0 n0) := (HKX8.out.below hb9 HKX8.out.lt).cell rfl
  have hlx : w.heap.size < u9.heap.size := by have := HK8.out.lt; have := hb9.size; omega
  have hly : u5.heap.size < u9.heap.size := by have := HKX8.out.lt; have := hb9.size; omega
  have h89 := hb9.size
  clear hb9
  go_wp2
  have HD9 : Hid (Below u9.heap.size u9 u9.drew) := (Below.refl _ _).drew
  have HR9 : Hid (RdBk u9.drew u9.drew.heap.size A0 n0 X0) := (rd_step HA.out (bel_step HB8.out HB89.out)).below HD9.out
  have HOX9 : Hid (OwNd u9 u4.heap.size u5.heap.size (some ⟨u4.heap.size + 3, 0, none⟩) n0 X0) := HOX8.out.below HB89.out (by omega)
  go_region_held3 (fun w' => w'.cell? ⟨w.heap.size, 0, none⟩ = some (.slice A0 n0 c0) ∧ w'.cell? ⟨u5.heap.size, 0, none⟩ = some (.slice (some ⟨u4.heap.size + 3, 0, none⟩) n0 n0))
    (first | exact ⟨hx9, hy9⟩ | exact hsa | exact hsb | go_keep)
    (first
      | (go_at_call 12
         refine (toNand_any A0 n0 c0 X0 u9.drew (by omega) HPL.out HR9.out).mono ?_
         rintro e ua ⟨rfl, hoa, hba⟩
         have hsa : ua.cell? ⟨w.heap.size, 0, none⟩ = some (.slice A0 n0 c0) ∧ ua.cell? ⟨u5.heap.size, 0, none⟩ = some (.slice (some ⟨u4.heap.size + 3, 0, none⟩) n0 n0) :=
           ⟨(hba.cell (p := ⟨w.heap.size, 0, none⟩) hlx).trans hx9, (hba.cell (p := ⟨u5.heap.size, 0, none⟩) hly).trans hy9⟩
         have HBa := Lib.hid (HD9.out.trans hba)
         have HOa := Lib.hid hoa
         clear hoa hba)
      | (go_at_call 15
         refine (eqNand_same _ _ n0 n0 n0 X0 _ (by omega) HPL.out ((HOX9.out.below HBa.out (by omega)).rd (by have := HBa.out.size; omega)) (HOa.out.rd (Nat.le_refl _))).mono ?_
         rintro e ub ⟨rfl, hbb⟩
         have HBb := Lib.hid (bel_step HBa.out hbb)
         have hsb : ub.cell? ⟨w.heap.size, 0, none⟩ = some (.slice A0 n0 c0) ∧ ub.cell? ⟨u5.heap.size, 0, none⟩ = some (.slice (some ⟨u4.heap.size + 3, 0, none⟩) n0 n0) :=
           ⟨(HBb.out.cell (p := ⟨w.heap.size, 0, none⟩) hlx).trans hx9, (HBb.out.cell (p := ⟨u5.heap.size, 0, none⟩) hly).trans hy9⟩
         clear hbb))
  all_goals
    have HB8b : Hid (Below u8.heap.size u8 ub) := bel_step HB89.out HBb.out
    have h8b := HB8b.out.size
    have hyb : ub.cell? ⟨u5.heap.size, 0, none⟩ = some (.slice (some ⟨u4.heap.size + 3, 0, none⟩) n0 n0) := hsb.2
    clear hsb hx9 hy9 hlx hly HR9 HOX9 HD9
    go_wp2_with fail
    refine (markNand_any _ u4.heap.size u5.heap.size n0 n0 1 X0 ub (by omega) HKX.out (by omega) (HOX8.out.below HB8b.out (by omega))).mono ?_
    rintro e um ⟨rfl, -, hbm⟩
    have hbm8 : Btw u4.heap.size u5.heap.size u8 um := (Btw.of_below HB8b.out).trans hbm
    have h8m := hbm8.size
    have HBm : Hid (Below w.heap.size w um) := HB8.out.trans ((hbm8.below (by omega)).mono (by have := HB4.out.size; omega))
    have HKm : Hid (IsBlk um w.heap.size 24 [.slice A0 n0 c0]) := (hbm8.block _ HK8.out.lt (by omega)).trans HK8.out
    have HKWm : Hid (IsBlk um u3.heap.size 30 [.slice Aw nR cw, .string R.data, .int .i64 R.code]) := (hbm8.block _ HKW8.out.lt (by omega)).trans HKW8.out
    have HKGm : Hid (IsBlk um u7.heap.size 30 [.slice Ag nR cg, .string R.data, .int .i64 R.code]) := (hbm8.block _ HKG8.out.lt (by omega)).trans HKG8.out
    have HOWm := Lib.hid (HOW8.out.btw hbm8 (by omega) (by omega))
    have HOGm := Lib.hid (HOG8.out.btw hbm8 (by omega) (by omega))
    obtain ⟨e0, e1, e2, -, -, -⟩ := blk3 HKWm.out
    obtain ⟨f0, f1, f2, -, -, -⟩ := blk3 HKGm.out
    clear hbm hbm8 hyb
    go_wp2_with fail
    refine (eqNandOut_same Ag Aw nR cg cw R.nd R.data R.code um (by omega) HPR.out (HOGm.out.rd (by omega)) (HOWm.out.rd (by omega))).mono ?_
    rintro e un ⟨rfl, hbn⟩
    have HBn := Lib.hid hbn
    have hmn := hbn.size
    have HKGn := Lib.hid (HKGm.out.below hbn HKGm.out.lt)
    clear hbn e0 e1 e2 f0 f1 f2
    obtain ⟨f0, f1, f2, -, -, -⟩ := blk3 HKGn.out
    go_wp2_with fail
    refine (markNandOut_any Ag u6.heap.size u7.heap.size nR cg 1 R.nd R.data R.code un (by omega) HKR.out (by omega) (HOGm.out.below HBn.out (by omega))).mono ?_
    rintro e up ⟨rfl, hmk, hbp⟩
    have hbmp : Btw u6.heap.size u7.heap.size um up := (Btw.of_below HBn.out).trans hbp
    have hmp := hbmp.size
    have HBp : Hid (Below w.heap.size w up) := HBm.out.trans ((hbmp.below (by omega)).mono (by have := HB4.out.size; omega))
    have HKp : Hid (IsBlk up w.heap.size 24 [.slice A0 n0 c0]) := (hbmp.block _ HKm.out.lt (by omega)).trans HKm.out
    have HKWp : Hid (IsBlk up u3.heap.size 30 [.slice Aw nR cw, .string R.data, .int .i64 R.code]) := (hbmp.block _ HKWm.out.lt (by omega)).trans HKWm.out
    have HKGp : Hid (IsBlk up u7.heap.size 30 [.slice Ag nR cg, .string R.data, .int .i64 R.code]) := (hbmp.block _ HKGm.out.lt (by omega)).trans HKGm.out
    have HOWp := Lib.hid (HOWm.out.btw hbmp (by omega) (by omega))
    have HMKp := Lib.hid hmk
    clear hbp hbmp hmk f0 f1 f2
    obtain ⟨f0, f1, f2, -, -, -⟩ := blk3 HKGp.out
    go_wp2_with fail
    refine (heldNandOut_any Ag u6.heap.size u7.heap.size nR cg 1 R.nd R.data R.code up (by omega) HKR.out (by omega) HMKp.out).mono ?_
    rintro e uq ⟨rfl, hbq⟩
    have HBpq := Lib.hid hbq
    have hpq := hbq.size
    have HBq := Lib.hid (bel_step HBp.out hbq)
    have HKq := Lib.hid (HKp.out.below hbq HKp.out.lt)
    have hxq : uq.cell? ⟨w.heap.size, 0, none⟩ = some (.slice A0 n0 c0) := HKq.out.cell rfl
    clear hbq f0 f1 f2
    go_wp2_with fail
    refine (toNand_any A0 n0 c0 X0 uq (by omega) HPL.out (rd_step HA.out HBq.out)).mono ?_
    rintro e ur ⟨rfl, hor, hbr⟩
    have HBpr : Hid (Below up.heap.size up ur) := bel_step HBpq.out hbr
    have HOr := Lib.hid hor
    clear hbr hor hxq
    go_wp2_with fail
    refine (HIMPL.out _ n0 ur (bel_step HBp.out HBpr.out) (HOr.out.rd (Nat.le_refl _))).mono ?_
    rintro e us ⟨Ah, ch, rfl, hos, hbs⟩
    rw [← HNR.out] at hos ⊢
    have HBps : Hid (Below up.heap.size up us) := bel_step HBpr.out hbs
    have HOs := Lib.hid hos
    have hps := HBps.out.size
    have HKWs := Lib.hid (HKWp.out.below HBps.out HKWp.out.lt)
    obtain ⟨e0, e1, e2, -, -, -⟩ := blk3 HKWs.out
    have h3s : u3.heap.size < us.heap.size := by omega
    clear hbs hos
    go_wp2_with fail
    have kt := isBlk_new us 30 [.slice Ah nR ch, .string R.data, .int .i64 R.code]
    have hbt := box_below us (.cells #[.slice Ah nR ch, .string R.data, .int .i64 R.code] 30)
    change Calls _ _ _ (us.alloc (.cells #[.slice Ah nR ch, .string R.data, .int .i64 R.code] 30)) _
    generalize us.alloc (.cells #[.slice Ah nR ch, .string R.data, .int .i64 R.code] 30) = ut at kt hbt ⊢
    have HBpt : Hid (Below up.heap.size up ut) := bel_step HBps.out hbt
    have hpt := HBpt.out.size
    have hst := hbt.size
    refine (eqNandOut_same Ah Aw nR ch cw R.nd R.data R.code ut (by omega) HPR.out ((HOs.out.below hbt (Nat.le_refl _)).rd hst) ((HOWp.out.below HBpt.out (by omega)).rd (by omega))).mono ?_
    rintro e uu ⟨rfl, hbu⟩
    have HBpu : Hid (Below up.heap.size up uu) := bel_step HBpt.out hbu
    have hpu := HBpu.out.size
    have HKGu := Lib.hid (HKGp.out.below HBpu.out HKGp.out.lt)
    clear hbu hbt kt e0 e1 e2
    obtain ⟨f0, f1, f2, -, -, -⟩ := blk3 HKGu.out
    go_wp2_with fail
    refine (heldNandOut_any Ag u6.heap.size u7.heap.size nR cg 1 R.nd R.data R.code uu (by omega) HKR.out (by omega) (HMKp.out.below HBpu.out (by omega))).mono ?_
    rintro e uv ⟨rfl, hbv⟩
    have HBv := Lib.hid (bel_step HBp.out (bel_step HBpu.out hbv))
    clear hbv f0 f1 f2
    go_wp2
    go_ret
    exact ⟨rfl, HBv.out⟩

set_option maxHeartbeats 1000000 in
set_option maxRecDepth 100000 in
theorem lifted (os : Os) (started : os.Started) (H : Type) (enc : TypeId × Value → H) :
    ReturnsInHanded {} Tryz.checked os 3 .any (fun w args => (Rows.fnExactMoveOutSpec.pre enc Tryz.prog Tryz.f3 [] false w args ∧ laidMetH Tryz.prog Rows.fnExactMoveOutRow.laid w) ∧ sizedMet enc Tryz.prog Tryz.f3 (OpenSpec.ofChange Rows.fnExactMoveOutSpec) false w args)
      (Rows.fnExactMoveOutSpec.post enc Tryz.prog Tryz.f3 false true false false) := by
  refine returnsInHanded_of_change_and (C := Tryz.checked) (X := fun w _ => laidMetH Tryz.prog Rows.fnExactMoveOutRow.laid w) (fun _ _ _ hh h => h.of_heap hh) own started (by kernel_rfl) Tryz.func3
    (ChangeSpec.witness_at (enc := enc) (C := Tryz.checked) (os := os) (X := fun w _ => laidMetH Tryz.prog Rows.fnExactMoveOutRow.laid w) false (laidWorld os) #[.agg #[.slice none 0 0], .int .i64 0, .int .i64 0] 8 rfl (by kernel_rfl) (by kernel_rfl) (by kernel_rfl) (by kernel_rfl) (by kernel_rfl) (laidWorld_met os _)) ?_
  intro W base args ds gs before hval0 hW _ _ hL _
  have hval : ∀ (j : Nat) t v, Tryz.f3.params[j]? = some t → args[j]? = some v → Value.okWide Tryz.prog W .any base t v := hval0
  have hW' := hW
  obtain ⟨p, q, hA0, hV0, rfl, hfz, hnd⟩ := hW
  have hA : DataW.TrodAll enc Tryz.prog W 0 (fun _ => true) true Tryz.f3.params.toList args.toList ds p := hA0
  have hV : DataW.TrodVars enc Tryz.prog W (fun _ => true) [nInv, nHist, nRoom] gs q := hV0
  rw [Tryz.params3] at hA hval
  obtain ⟨v0, vs0, d0, ds0, p0, q0, hargs, rfl, rfl, h0, z0⟩ := trodAll_cons hA
  obtain ⟨v1, vs1, d1, ds1, p1, q1, rfl, rfl, rfl, h1, z1⟩ := trodAll_cons z0
  obtain ⟨v2, vs2, d2, ds2, p2, q2, rfl, rfl, rfl, h2, z2⟩ := trodAll_cons z1
  obtain ⟨rfl, rfl, rfl⟩ := trodAll_nil z2
  obtain rfl : args = #[v0, v1, v2] := by cases args; simp_all
  have hL2 : laidMet Tryz.prog [(nInv, .iface "*errors.errorString" (.ptr (.agg [.lit (.string [97, 110, 32, 97, 114, 103, 117, 109, 101, 110, 116, 32, 105, 115, 32, 105, 110, 118, 97, 108, 105, 100])]))), (nRoom, .iface "*errors.errorString" (.ptr (.agg [.lit (.string [116, 104, 101, 114, 101, 32, 105, 115, 32, 110, 111, 32, 98, 108, 111, 99, 107, 32, 102, 111, 114, 32, 116, 104, 101, 32, 110, 101, 120, 116, 32, 112, 97, 103, 101])]))), (nHist, .iface "*errors.errorString" (.ptr (.agg [.lit (.string [116, 104, 101, 32, 114, 101, 99, 111, 114, 100, 115, 32, 97, 114, 101, 32, 110, 111, 32, 118, 97, 108, 105, 100, 32, 104, 105, 115, 116, 111, 114, 121])])))] W ∧ handlesMet Tryz.prog [("errors.errorType", Rows.laid_errors_errorType)] W := hL
  have hG := errType_of_handle rfl hL2.2
  obtain ⟨a0', a1', a2', hS, g0, g1, g2⟩ := sents_of_laid hL2.1
  have vr : ∀ {X : World}, Below W.heap.size W X → ∀ sp : Nat → Bool, DataW.TrodVars enc Tryz.prog X sp [nInv, nHist, nRoom] [tok enc (.iface 350 (.pointer (some a0'))), tok enc (.iface 350 (.pointer (some a2'))), tok enc (.iface 350 (.pointer (some a1')))] [.cell 0 0, .cell 1 0, .cell 2 0] :=
    fun hb sp => vars_readIHR enc (var_below g0 hb) trivial (var_below g1 hb) trivial (var_below g2 hb) trivial sp
  obtain ⟨rfl, rfl⟩ := hV.unique (vr (Below.refl _ _) _)
  have k0 := h0
  have lt0 : ∀ x ∈ p0, x.block < W.heap.size := by obtain ⟨m, hm⟩ := k0; exact DataW.trod_lt m _ _ _ hm
  obtain ⟨A0, n0, c0, X0, rfl, w0, x0⟩ := open_lawsNand (hval 0 24 v0 rfl rfl) h0
  obtain ⟨a1, rfl, rfl, rfl, w1⟩ := open_int Tryz.underlying2 (hval 1 2 v1 rfl rfl) h1
  obtain ⟨a2, rfl, rfl, rfl, w2⟩ := open_int Tryz.underlying2 (hval 2 2 v2 rfl rfl) h2
  clear hA0 hV0 hval0
  refine (walk A0 n0 c0 X0 a1 a2 W w0 x0 w1 w2 hG a0' a1' a2' hS).mono fun e W' ⟨he, bel⟩ => ?_
  subst he
  exact ⟨_, rfl, _, _, _, [], _, _, hW', trodAll_mk1 (shut_bool Tryz.underlying4 _), (trodAll_cons_mk (Below.trod laidOut (by kernel_rfl) (of_decide_eq_true (by kernel_rfl)) k0 bel lt0) (trodAll_cons_mk (shut_int Tryz.underlying2 w1) (trodAll_cons_mk (shut_int Tryz.underlying2 w2) trodAll_mk0))), vr bel _, bel.frame _, fun h => by cases h⟩

set_option maxHeartbeats 16000000 in
theorem over : Rows.FnExactMoveOutSaid := by
  refine OpenClaim.holds_of_wide 3 Tryz.f3 rfl rfl rfl rfl rfl rfl rfl ⟨rfl, rfl, rfl, rfl, rfl⟩ rfl rfl rfl rfl rfl (by as_aux_lemma => kernel_rfl) Tryz.func3 ?closed
    (of_decide_eq_true (by as_aux_lemma => kernel_rfl)) (by unfold Func.isWrapper; rw [if_neg (of_decide_eq_false (by as_aux_lemma => kernel_rfl))]; exact ⟨rfl, rfl⟩)
    (fun os started H enc _ => lifted os started H enc)
  case closed =>
    unfold joinedFacts
    simp only [Bool.and_eq_true]
    repeat' apply And.intro
    all_goals (as_aux_lemma => kernel_rfl)

set_option maxHeartbeats 16000000 in
theorem proved : Rows.FnExactMoveOutCardSaid :=
  Claim7.holds_tied_plain_at .later [] [.handle, .sentinel, .sentinel, .sentinel] true (true, "58358f82c1d6350424ce03cfc9d603867f8bd3613966a76f4f59e8e28c3b2992") true
    over (fun _ h => by cases h) (by as_aux_lemma => kernel_rfl) (fun _ h => by cases h) fnExactMoveOut_row_tie rfl ⟨rfl, rfl⟩ (by as_aux_lemma => kernel_rfl) rfl
    (fun f fn hf hfn => by
      obtain rfl : f = 3 := Option.some.inj ((show Tryz.prog.funcNamed "loop.example/g00637/laws.FnExactMoveOut" = some 3 by kernel_rfl).symm.trans hf) |>.symm
      obtain rfl : fn = Tryz.f3 := (Option.some.inj (Tryz.func3.symm.trans hfn)).symm
      exact ⟨by kernel_rfl, fun j t ht => by
        rw [Tryz.params3] at ht
        have h3 : t = 2 ∨ t = 24 := by
          rcases j with _ | _ | _ | j
          all_goals first | (simp at ht; subst ht; simp) | (simp at ht)
        rcases h3 with rfl | rfl
        · exact (show Tryz.prog.wantsStandIn 2 = false by kernel_rfl)
        · exact (show Tryz.prog.wantsStandIn 24 = false by kernel_rfl)⟩)
    (by as_aux_lemma => kernel_rfl)
#print axioms proved
end Go.Proofs.YtfpibbhcecdbgaaGreatDoor.fnExactMoveOut
