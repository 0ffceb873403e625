/-
  For every chip n and every block, the law FnExactLoad returns true: the program's Load answers as the document's; it writes into no argument; its answer owns its memory; and the arguments read afterwards as before. The library's variable errors.errorType and the program's errInvalid and errNoHistory read as their text lays them (a tied card).
-/
import Derived.Test.YtkiklcdkliebaaaGreatDoorRows
import Derived.Test.YtkiklcdkliebaaaGreatDoorTie
import Derived.Test.YtkiklcdkliebaaaGreatDoorCards
import Derived.Test.YtkiklcdkliebaaaGreatDoorMgLaid
import Derived.Test.YtkiklcdkliebaaaGreatDoorMgNd
import Derived.Test.YtkiklcdkliebaaaGreatDoorHsNum
import Derived.Test.YtkiklcdkliebaaaGreatDoorMgLoad
import Derived.Deep.RegionHeld3
import Derived.WalkKit
import Derived.ProofKit
import Derived.OpenShut
import Derived.ShutString
import Derived.ChangeOld
import Derived.ChangeSame
import Derived.ChangeVars
import Derived.JoinedOf
import Derived.RowKitTokens
import Derived.LaidLaws
import Derived.LaidHandle
import Derived.Stop.Joined
import Derived.SevenTiedAt
import Derived.Below
namespace Go.Proofs.YtkiklcdkliebaaaGreatDoor.fnExactLoad
open Go.ChangeShapes Go.WideShapes Go.ChangeAt Go.RowKit
open Go.ChangeMaps (open_string shut_string)
set_option linter.unusedVariables false

theorem own : ownKnob Tryz.prog.godebug = none := by kernel_rfl
theorem laidOut : laidOutB Tryz.prog = true := by kernel_rfl

noncomputable abbrev laidWorld (os : Os) : World := bothWorld os ⟨#[97, 110, 32, 97, 114, 103, 117, 109, 101, 110, 116, 32, 105, 115, 32, 105, 110, 118, 97, 108, 105, 100]⟩ ⟨#[116, 104, 101, 114, 101, 32, 105, 115, 32, 110, 111, 32, 98, 108, 111, 99, 107, 32, 102, 111, 114, 32, 116, 104, 101, 32, 110, 101, 120, 116, 32, 112, 97, 103, 101]⟩ ⟨#[116, 104, 101, 32, 114, 101, 99, 111, 114, 100, 115, 32, 97, 114, 101, 32, 110, 111, 32, 118, 97, 108, 105, 100, 32, 104, 105, 115, 116, 111, 114, 121]⟩
theorem laidWorld_met (os : Os) (args : Array Value) : laidMetH Tryz.prog Rows.fnExactLoadRow.laid ((laidWorld os).forCall (fun _ _ => 0) ⟨#[], args, []⟩).memory :=
  laidMetH_of_parts (laidMet_of_run' 8 (by kernel_rfl) (by kernel_rfl)) (by kernel_rfl)

set_option maxHeartbeats 8000000 in
set_option maxRecDepth 100000 in
theorem walk (A0 : Option Addr) (n0 c0 : Nat) (X0 : List Bk) (a1 : Int) (w : World) (w0 : RdBk w w.heap.size A0 n0 X0) (x0 : Wide X0) (w1 : (Lit.int .i64 a1).wf = true) (hG : ErrType w) (a0' a2' : Addr) (hS : Two w a0' a2') :
    Calls Tryz.prog 4 #[.agg #[.slice A0 n0 c0], .int .i64 a1] w fun e w' => e = .returned (.bool true) ∧ Below w.heap.size w w' := by
  have HA := Lib.hid w0; have HX := Lib.hid x0; have HG := Lib.hid hG; have HSe := Lib.hid hS; clear w0 x0 hG hS
  go_enter Tryz.func4, Tryz.ntmps4
  go_wp2_with fail
  have hb0 : Below w.heap.size w (w.alloc (.cells #[.slice A0 n0 c0] 24)) := (Below.refl _ _).alloc (Nat.le_refl _) _
  have k0 := isBlk_new w 24 [.slice A0 n0 c0]
  change Calls _ _ _ (w.alloc (.cells #[.slice A0 n0 c0] 24)) _
  generalize w.alloc (.cells #[.slice A0 n0 c0] 24) = U0 at hb0 k0 ⊢
  refine (szNand_any A0 n0 c0 X0 1048576 U0 (by omega) (by omega) HX.out (rd_step HA.out hb0)).mono ?_
  rintro e u1 ⟨rfl, hb1⟩
  have HB1 := Lib.hid (hb0.trans (hb1.mono hb0.size))
  have HK1 := Lib.hid (k0.below hb1 k0.lt)
  have hx1 : u1.cell? ⟨w.heap.size, 0, none⟩ = some (.slice A0 n0 c0) := HK1.out.cell rfl
  clear hb1 hb0 k0
  by_cases hs : ((szBks X0 : Nat) : Int) ≤ 1048576
  case neg =>
    have hz := szR_no (t := szBks X0) (left := 1048576) (by omega)
    go_wp2
    go_ret
    exact ⟨rfl, HB1.out⟩
  have hz := szR_ok hs
  have hnn : 0 ≤ 1048576 - ((szBks X0 : Nat) : Int) := by omega
  have HSM := Lib.hid (small_of_sz (X := X0) (by omega))
  have HL0 := Lib.hid HA.out.1
  have hnl : n0 ≤ 1048576 := by have := HSM.out.1; have := HL0.out; omega
  have HPL : Hid (∀ b ∈ X0, b.pages.length ≤ 2147483648) := fun b hb => by have := (HSM.out.2 b hb).1; omega
  have HKX : Hid (kAt X0 1 n0 ≤ 16777216) := by show kAt X0 1 n0 ≤ 16777216; rw [← HL0.out]; exact sz_kAt (by omega)
  obtain ⟨R, hR⟩ : ∃ R, R = loadAns X0 a1 := ⟨_, rfl⟩
  have hRl : R.length ≤ 1048576 := by rw [hR]; exact Nat.le_trans (loadAns_len X0 a1) (by omega)
  have HSPEC : Hid (∀ (A : Option Addr) (c : Nat) (W : World), RdBk W W.heap.size A n0 X0 → Calls Tryz.prog 17 #[.agg #[.slice A n0 c], .int .i64 a1] W (RetNs W R)) := fun A c W h => by rw [hR]; exact spec_load A n0 c X0 a1 W HSM.out h
  have HIMPL : Hid (∀ (A : Option Addr) (c : Nat) (W : World), Below w.heap.size w W → RdBk W W.heap.size A n0 X0 → Calls Tryz.prog 18 #[.agg #[.slice A n0 c], .int .i64 a1] W (RetNs W R)) := fun A c W hb h => by rw [hR]; exact impl_load A n0 c X0 a1 a0' a2' W (HG.out.below hb) (HSe.out.below hb) HSM.out h
  obtain ⟨nR, hnR⟩ : ∃ nR, nR = R.length := ⟨_, rfl⟩
  have HNR := Lib.hid hnR
  have hnRl : nR ≤ 1048576 := by rw [hnR]; exact hRl
  obtain ⟨M, hM⟩ : ∃ M, M = 1 + nR := ⟨_, rfl⟩
  have HM := Lib.hid hM
  have hMl : M ≤ 1048577 := by omega
  clear hR hnR hRl hM
  go_wp2_with fail
  refine (toNand_any A0 n0 c0 X0 u1 (by omega) HPL.out (rd_step HA.out HB1.out)).mono ?_
  rintro e u2 ⟨rfl, ho2, hb2⟩
  have HB2 := Lib.hid (HB1.out.trans (hb2.mono HB1.out.size))
  have HK2 := Lib.hid (HK1.out.below hb2 HK1.out.lt)
  have HO2 := Lib.hid ho2
  have h12 := hb2.size
  clear hb2 ho2 hx1
  go_wp2_with fail
  refine (HSPEC.out _ n0 u2 (HO2.out.rd (Nat.le_refl _))).mono ?_
  rintro e u3 ⟨Aw, cw, rfl, ho3, hb3⟩
  rw [← HNR.out] at ho3 ⊢
  have HB3 := Lib.hid (HB2.out.trans (hb3.mono HB2.out.size))
  have HK3 := Lib.hid (HK2.out.below hb3 HK2.out.lt)
  have HOW3 := Lib.hid ho3
  have h23 := hb3.size
  have hx3 : u3.cell? ⟨w.heap.size, 0, none⟩ = some (.slice A0 n0 c0) := HK3.out.cell rfl
  clear hb3 ho3 HO2 HSPEC
  go_wp2_with fail
  refine (toNand_any A0 n0 c0 X0 u3 (by omega) HPL.out (rd_step HA.out HB3.out)).mono ?_
  rintro e u4 ⟨rfl, ho4, hb4⟩
  have HB4 := Lib.hid (HB3.out.trans (hb4.mono HB3.out.size))
  have HK4 := Lib.hid (HK3.out.below hb4 HK3.out.lt)
  have HOW4 := Lib.hid (HOW3.out.below hb4 (Nat.le_refl _))
  have HO4 := Lib.hid ho4
  have h34 := hb4.size
  clear hb4 ho4 hx3 HOW3
  go_wp2_with fail
  have hb5 : Below u4.heap.size u4 (u4.alloc (.cells #[.slice (some ⟨u3.heap.size + 3, 0, none⟩) n0 n0] 34)) := (Below.refl _ _).alloc (Nat.le_refl _) _
  have k5 := isBlk_new u4 34 [.slice (some ⟨u3.heap.size + 3, 0, none⟩) n0 n0]
  have hs5 := size_alloc u4 (.cells #[.slice (some ⟨u3.heap.size + 3, 0, none⟩) n0 n0] 34)
  change Calls _ _ _ (u4.alloc (.cells #[.slice (some ⟨u3.heap.size + 3, 0, none⟩) n0 n0] 34)) _
  generalize u4.alloc (.cells #[.slice (some ⟨u3.heap.size + 3, 0, none⟩) n0 n0] 34) = u5 at hb5 k5 hs5 ⊢
  have h45 : u4.heap.size < u5.heap.size := by omega
  clear hs5
  refine (HIMPL.out _ n0 u5 (HB4.out.trans (hb5.mono HB4.out.size)) ((HO4.out.below hb5 (Nat.le_refl _)).rd hb5.size)).mono ?_
  rintro e u6 ⟨Ag, cg, rfl, ho6, hb6⟩
  rw [← HNR.out] at ho6 ⊢
  have HB56 := Lib.hid hb6
  have HB46 := Lib.hid (hb5.trans (hb6.mono hb5.size))
  have HB6 := Lib.hid (HB4.out.trans (HB46.out.mono HB4.out.size))
  have HK6 := Lib.hid (HK4.out.below HB46.out HK4.out.lt)
  have HKX6 := Lib.hid (k5.below hb6 k5.lt)
  have HOW6 := Lib.hid (HOW4.out.below HB46.out (by omega))
  have HOX6 := Lib.hid (HO4.out.below HB46.out (Nat.le_refl _))
  have HOG6 := Lib.hid ho6
  have h56 := hb6.size
  clear hb5 hb6 k5 ho6 HO4 HOW4
  go_wp2_with fail
  refine (eqInt64S_same Ag Aw nR cg cw R u6 (by omega) (HOG6.out.rd (Nat.le_refl _)) (HOW6.out.rd (by omega))).mono ?_
  rintro e u7 ⟨rfl, hb7⟩
  have HB67 := Lib.hid hb7
  have h67 := hb7.size
  have hx7 : u7.cell? ⟨w.heap.size, 0, none⟩ = some (.slice A0 n0 c0) := (HK6.out.below hb7 HK6.out.lt).cell rfl
  have hy7 : u7.cell? ⟨u4.heap.size, 0, none⟩ = some (.slice (some ⟨u3.heap.size + 3, 0, none⟩) n0 n0) := (HKX6.out.below hb7 HKX6.out.lt).cell rfl
  have hlx : w.heap.size < u7.heap.size := by have := HK6.out.lt; omega
  have hly : u4.heap.size < u7.heap.size := by omega
  clear hb7
  go_wp2
  have HD7 : Hid (Below u7.heap.size u7 u7.drew) := (Below.refl _ _).drew
  have HR7 : Hid (RdBk u7.drew u7.drew.heap.size A0 n0 X0) := rd_step (rd_step (rd_step HA.out HB6.out) HB67.out) HD7.out
  have HOX7 : Hid (OwNd u7 u3.heap.size u4.heap.size (some ⟨u3.heap.size + 3, 0, none⟩) n0 X0) := HOX6.out.below HB67.out (by omega)
  go_region_held3 (fun w' => w'.cell? ⟨w.heap.size, 0, none⟩ = some (.slice A0 n0 c0) ∧ w'.cell? ⟨u4.heap.size, 0, none⟩ = some (.slice (some ⟨u3.heap.size + 3, 0, none⟩) n0 n0))
    (first | exact ⟨hx7, hy7⟩ | exact hsa | exact hsb | go_keep)
    (first
      | (go_at_call 10
         refine (toNand_any A0 n0 c0 X0 u7.drew (by omega) HPL.out HR7.out).mono ?_
         rintro e ua ⟨rfl, hoa, hba⟩
         have hsa : ua.cell? ⟨w.heap.size, 0, none⟩ = some (.slice A0 n0 c0) ∧ ua.cell? ⟨u4.heap.size, 0, none⟩ = some (.slice (some ⟨u3.heap.size + 3, 0, none⟩) n0 n0) :=
           ⟨(hba.cell (p := ⟨w.heap.size, 0, none⟩) hlx).trans hx7, (hba.cell (p := ⟨u4.heap.size, 0, none⟩) hly).trans hy7⟩
         have HBa := Lib.hid (HD7.out.trans hba)
         have HOa := Lib.hid hoa
         clear hoa hba)
      | (go_at_call 13
         refine (eqNand_same _ _ n0 n0 n0 X0 _ (by omega) HPL.out ((HOX7.out.below HBa.out (by omega)).rd (by have := HBa.out.size; omega)) (HOa.out.rd (Nat.le_refl _))).mono ?_
         rintro e ub ⟨rfl, hbb⟩
         have HBb := Lib.hid (HBa.out.trans (hbb.mono HBa.out.size))
         have hsb : ub.cell? ⟨w.heap.size, 0, none⟩ = some (.slice A0 n0 c0) ∧ ub.cell? ⟨u4.heap.size, 0, none⟩ = some (.slice (some ⟨u3.heap.size + 3, 0, none⟩) n0 n0) :=
           ⟨(HBb.out.cell (p := ⟨w.heap.size, 0, none⟩) hlx).trans hx7, (HBb.out.cell (p := ⟨u4.heap.size, 0, none⟩) hly).trans hy7⟩
         clear hbb))
  all_goals
    have HB6b : Hid (Below u6.heap.size u6 ub) := HB67.out.trans (HBb.out.mono HB67.out.size)
    have h6b := HB6b.out.size
    have hyb : ub.cell? ⟨u4.heap.size, 0, none⟩ = some (.slice (some ⟨u3.heap.size + 3, 0, none⟩) n0 n0) := hsb.2
    clear hsb hx7 hy7 hlx hly HR7 HOX7 HD7
    go_wp2_with fail
    refine (markNand_any _ u3.heap.size u4.heap.size n0 n0 1 X0 ub (by omega) HKX.out (by omega) (HOX6.out.below HB6b.out (by omega))).mono ?_
    rintro e um ⟨rfl, -, hbm⟩
    have hbm6 : Btw u3.heap.size u4.heap.size u6 um := (Btw.of_below HB6b.out).trans hbm
    have h6m := hbm6.size
    have HBm : Hid (Below w.heap.size w um) := HB6.out.trans ((hbm6.below (by omega)).mono HB3.out.size)
    have HKm : Hid (IsBlk um w.heap.size 24 [.slice A0 n0 c0]) := (hbm6.block _ HK6.out.lt (by have := HK3.out.lt; omega)).trans HK6.out
    have HOWm := Lib.hid (HOW6.out.btw hbm6 (by omega) (by omega))
    have HOGm := Lib.hid (HOG6.out.btw hbm6 (by omega) (by omega))
    clear hbm hbm6 hyb
    go_wp2_with fail
    refine (eqInt64S_same Ag Aw nR cg cw R um (by omega) (HOGm.out.rd (by omega)) (HOWm.out.rd (by omega))).mono ?_
    rintro e un ⟨rfl, hbn⟩
    have HBn := Lib.hid hbn
    have hmn := hbn.size
    clear hbn
    go_wp2_with fail
    refine (markInt64S_any Ag u5.heap.size u6.heap.size nR cg 1 R un (by omega) (by omega) (HOGm.out.below HBn.out (by omega))).mono ?_
    rintro e up ⟨rfl, hmk, hbp⟩
    rw [← HM.out]
    have hbmp : Btw u5.heap.size u6.heap.size um up := (Btw.of_below HBn.out).trans hbp
    have hmp := hbmp.size
    have HBp : Hid (Below w.heap.size w up) := HBm.out.trans ((hbmp.below (by omega)).mono (by have := HB4.out.size; omega))
    have HKp : Hid (IsBlk up w.heap.size 24 [.slice A0 n0 c0]) := (hbmp.block _ HKm.out.lt (by have := HK3.out.lt; omega)).trans HKm.out
    have HOWp := Lib.hid (HOWm.out.btw hbmp (by omega) (by omega))
    have HMKp := Lib.hid hmk
    clear hbp hbmp hmk
    go_wp2_with fail
    refine (heldInt64S_any Ag u5.heap.size u6.heap.size nR cg 1 up (by omega) (by omega) HMKp.out).mono ?_
    rintro e uq ⟨rfl, hbq⟩
    rw [← HM.out]
    have HBpq := Lib.hid hbq
    have hpq := hbq.size
    have HBq := Lib.hid (HBp.out.trans (hbq.mono HBp.out.size))
    have HKq := Lib.hid (HKp.out.below hbq HKp.out.lt)
    have hxq : uq.cell? ⟨w.heap.size, 0, none⟩ = some (.slice A0 n0 c0) := HKq.out.cell rfl
    clear hbq
    go_wp2_with fail
    refine (toNand_any A0 n0 c0 X0 uq (by omega) HPL.out (rd_step HA.out HBq.out)).mono ?_
    rintro e ur ⟨rfl, hor, hbr⟩
    have HBpr : Hid (Below up.heap.size up ur) := HBpq.out.trans (hbr.mono HBpq.out.size)
    have HOr := Lib.hid hor
    clear hbr hor hxq
    go_wp2_with fail
    refine (HIMPL.out _ n0 ur (HBp.out.trans (HBpr.out.mono HBp.out.size)) (HOr.out.rd (Nat.le_refl _))).mono ?_
    rintro e us ⟨Ah, ch, rfl, hos, hbs⟩
    rw [← HNR.out] at hos ⊢
    have HBps : Hid (Below up.heap.size up us) := HBpr.out.trans (hbs.mono HBpr.out.size)
    have HOs := Lib.hid hos
    have hps := HBps.out.size
    clear hbs hos
    go_wp2_with fail
    refine (eqInt64S_same Ah Aw nR ch cw R us (by omega) (HOs.out.rd (Nat.le_refl _)) ((HOWp.out.below HBps.out (by omega)).rd (by omega))).mono ?_
    rintro e uu ⟨rfl, hbu⟩
    have HBpu : Hid (Below up.heap.size up uu) := HBps.out.trans (hbu.mono HBps.out.size)
    have hpu := HBpu.out.size
    clear hbu
    go_wp2_with fail
    refine (heldInt64S_any Ag u5.heap.size u6.heap.size nR cg 1 uu (by omega) (by omega) (HMKp.out.below HBpu.out (by omega))).mono ?_
    rintro e uv ⟨rfl, hbv⟩
    rw [← HM.out]
    have HBv := Lib.hid (HBp.out.trans ((HBpu.out.trans (hbv.mono HBpu.out.size)).mono HBp.out.size))
    clear hbv
    go_wp2
    go_ret
    exact ⟨rfl, HBv.out⟩

set_option maxHeartbeats 1000000 in
set_option maxRecDepth 100000 in
theorem lifted (os : Os) (started : os.Started) (H : Type) (enc : TypeId × Value → H) :
    ReturnsInHanded {} Tryz.checked os 4 .any (fun w args => (Rows.fnExactLoadSpec.pre enc Tryz.prog Tryz.f4 [] false w args ∧ laidMetH Tryz.prog Rows.fnExactLoadRow.laid w) ∧ sizedMet enc Tryz.prog Tryz.f4 (OpenSpec.ofChange Rows.fnExactLoadSpec) false w args)
      (Rows.fnExactLoadSpec.post enc Tryz.prog Tryz.f4 false true false false) := by
  refine returnsInHanded_of_change_and (C := Tryz.checked) (X := fun w _ => laidMetH Tryz.prog Rows.fnExactLoadRow.laid w) (fun _ _ _ hh h => h.of_heap hh) own started (by kernel_rfl) Tryz.func4
    (ChangeSpec.witness_at (enc := enc) (C := Tryz.checked) (os := os) (X := fun w _ => laidMetH Tryz.prog Rows.fnExactLoadRow.laid w) false (laidWorld os) #[.agg #[.slice none 0 0], .int .i64 0] 8 rfl (by kernel_rfl) (by kernel_rfl) (by kernel_rfl) (by kernel_rfl) (by kernel_rfl) (laidWorld_met os _)) ?_
  intro W base args ds gs before hval0 hW _ _ hL _
  have hval : ∀ (j : Nat) t v, Tryz.f4.params[j]? = some t → args[j]? = some v → Value.okWide Tryz.prog W .any base t v := hval0
  have hW' := hW
  obtain ⟨p, q, hA0, hV0, rfl, hfz, hnd⟩ := hW
  have hA : DataW.TrodAll enc Tryz.prog W 0 (fun _ => true) true Tryz.f4.params.toList args.toList ds p := hA0
  have hV : DataW.TrodVars enc Tryz.prog W (fun _ => true) [nInv, nHist] gs q := hV0
  rw [Tryz.params4] at hA hval
  obtain ⟨v0, vs0, d0, ds0, p0, q0, hargs, rfl, rfl, h0, z0⟩ := trodAll_cons hA
  obtain ⟨v1, vs1, d1, ds1, p1, q1, rfl, rfl, rfl, h1, z1⟩ := trodAll_cons z0
  obtain ⟨rfl, rfl, rfl⟩ := trodAll_nil z1
  obtain rfl : args = #[v0, v1] := by cases args; simp_all
  have hL2 : laidMet Tryz.prog [(nInv, .iface "*errors.errorString" (.ptr (.agg [.lit (.string [97, 110, 32, 97, 114, 103, 117, 109, 101, 110, 116, 32, 105, 115, 32, 105, 110, 118, 97, 108, 105, 100])]))), (nHist, .iface "*errors.errorString" (.ptr (.agg [.lit (.string [116, 104, 101, 32, 114, 101, 99, 111, 114, 100, 115, 32, 97, 114, 101, 32, 110, 111, 32, 118, 97, 108, 105, 100, 32, 104, 105, 115, 116, 111, 114, 121])])))] W ∧ handlesMet Tryz.prog [("errors.errorType", Rows.laid_errors_errorType)] W := hL
  have hG := errType_of_handle rfl hL2.2
  obtain ⟨a0', a2', hS, g0, g2⟩ := two_of_laid hL2.1
  have vr : ∀ {X : World}, Below W.heap.size W X → ∀ sp : Nat → Bool, DataW.TrodVars enc Tryz.prog X sp [nInv, nHist] [tok enc (.iface 263 (.pointer (some a0'))), tok enc (.iface 263 (.pointer (some a2')))] [.cell 0 0, .cell 1 0] :=
    fun hb sp => vars_readIH enc (var_below g0 hb) trivial (var_below g2 hb) trivial sp
  obtain ⟨rfl, rfl⟩ := hV.unique (vr (Below.refl _ _) _)
  have k0 := h0
  have lt0 : ∀ x ∈ p0, x.block < W.heap.size := by obtain ⟨m, hm⟩ := k0; exact DataW.trod_lt m _ _ _ hm
  obtain ⟨A0, n0, c0, X0, rfl, w0, x0⟩ := open_lawsNand (hval 0 24 v0 rfl rfl) h0
  obtain ⟨a1, rfl, rfl, rfl, w1⟩ := open_int Tryz.underlying2 (hval 1 2 v1 rfl rfl) h1
  clear hA0 hV0 hval0
  refine (walk A0 n0 c0 X0 a1 W w0 x0 w1 hG a0' a2' hS).mono fun e W' ⟨he, bel⟩ => ?_
  subst he
  exact ⟨_, rfl, _, _, _, [], _, _, hW', trodAll_mk1 (shut_bool Tryz.underlying4 _), (trodAll_cons_mk (Below.trod laidOut (by kernel_rfl) (of_decide_eq_true (by kernel_rfl)) k0 bel lt0) (trodAll_cons_mk (shut_int Tryz.underlying2 w1) trodAll_mk0)), vr bel _, bel.frame _, fun h => by cases h⟩

theorem over : Rows.FnExactLoadSaid :=
  OpenClaim.holds_of_wide 4 Tryz.f4 rfl rfl rfl rfl rfl rfl rfl ⟨rfl, rfl, rfl, rfl, rfl⟩ rfl rfl rfl rfl rfl (by kernel_rfl) Tryz.func4 (by kernel_rfl)
    (of_decide_eq_true (by kernel_rfl)) (by unfold Func.isWrapper; rw [if_neg (of_decide_eq_false (by kernel_rfl))]; exact ⟨rfl, rfl⟩)
    (fun os started H enc _ => lifted os started H enc)

theorem proved : Rows.FnExactLoadCardSaid :=
  Claim7.holds_tied_plain_at .later [] [.handle, .sentinel, .sentinel] true (true, "9cab9cf8a0254c60a8274e6a32b1e497f89dd31cb751e38eeae04f558ac8dae3") true
    over (fun _ h => by cases h) (by kernel_rfl) (fun _ h => by cases h) fnExactLoad_row_tie rfl ⟨rfl, rfl⟩ (by kernel_rfl) rfl
    (fun f fn hf hfn => by
      obtain rfl : f = 4 := Option.some.inj ((show Tryz.prog.funcNamed "loop.example/g00637/laws.FnExactLoad" = some 4 by kernel_rfl).symm.trans hf) |>.symm
      obtain rfl : fn = Tryz.f4 := (Option.some.inj (Tryz.func4.symm.trans hfn)).symm
      exact ⟨by kernel_rfl, fun j t ht => by
        rw [Tryz.params4] at ht
        have h3 : t = 2 ∨ t = 24 := by
          rcases j with _ | _ | j
          all_goals first | (simp at ht; subst ht; simp) | (simp at ht)
        rcases h3 with rfl | rfl
        · exact (show Tryz.prog.wantsStandIn 2 = false by kernel_rfl)
        · exact (show Tryz.prog.wantsStandIn 24 = false by kernel_rfl)⟩)
    (by kernel_rfl)
#print axioms proved
end Go.Proofs.YtkiklcdkliebaaaGreatDoor.fnExactLoad
