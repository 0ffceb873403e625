/-
  For every history h, the law FnExactNeeded returns true: the program's Needed answers as the document's; it writes into no argument; its answer owns its memory; and the arguments read afterwards as before. No condition.
-/
import Derived.Test.YtimlaeicbnnbdaaRows
import Derived.Test.YtimlaeicbnnbdaaHsLaw
import Derived.Test.YtimlaeicbnnbdaaHsMark
import Derived.Test.YtimlaeicbnnbdaaHsNum
import Derived.Test.YtimlaeicbnnbdaaHsNeedS
import Derived.Deep.RegionHeld3
import Derived.WalkKit
import Derived.ProofKit
import Derived.OpenShut
import Derived.ShutString
import Derived.ChangeOld
import Derived.Below
namespace Go.Proofs.Ytimlaeicbnnbdaa.fnExactNeeded
open Go.ChangeShapes Go.WideShapes Go.ChangeAt Go.RowKit
open Go.ChangeMaps (open_string shut_string)
set_option linter.unusedVariables false

theorem own : ownKnob Try.prog.godebug = none := by kernel_rfl
theorem laidOut : laidOutB Try.prog = true := by kernel_rfl

set_option maxHeartbeats 8000000 in
set_option maxRecDepth 100000 in
theorem walk (A0 : Option Addr) (n0 c0 : Nat) (X0 : List Bt.Rc) (w : World) (w0 : RdRc w w.heap.size A0 n0 X0) (x0 : WideR X0) :
    Calls Try.prog 5 #[.agg #[.slice A0 n0 c0]] w fun e w' => e = .returned (.bool true) ∧ Below w.heap.size w w' := by
  have HA := Lib.hid w0; have HX := Lib.hid x0; clear w0 x0
  go_enter Try.func5, Try.ntmps5
  go_wp2_with fail
  have hb0 : Below w.heap.size w (w.alloc (.cells #[.slice A0 n0 c0] 55)) := (Below.refl _ _).alloc (Nat.le_refl _) _
  have k0 := isBlk_new w 55 [.slice A0 n0 c0]
  change Calls _ _ _ (w.alloc (.cells #[.slice A0 n0 c0] 55)) _
  generalize w.alloc (.cells #[.slice A0 n0 c0] 55) = U0 at hb0 k0 ⊢
  refine (szHist_any A0 n0 c0 X0 1048576 U0 (by omega) (by omega) HX.out (HA.out.next hb0)).mono ?_
  rintro e u1 ⟨rfl, hb1⟩
  have HB1 := Lib.hid (hb0.trans (hb1.mono hb0.size))
  have HK1 := Lib.hid (k0.below hb1 k0.lt)
  have hx1 : u1.cell? ⟨w.heap.size, 0, none⟩ = some (.slice A0 n0 c0) := HK1.out.cell rfl
  clear hb1 hb0 k0
  by_cases hs : ((szRcs X0 : Nat) : Int) ≤ 1048576
  case neg =>
    have hz := szR_no (t := szRcs X0) (left := 1048576) (by omega)
    go_wp2
    go_ret
    exact ⟨rfl, HB1.out⟩
  have hz := szR_ok hs
  have hnn : 0 ≤ 1048576 - ((szRcs X0 : Nat) : Int) := by omega
  have HSM := Lib.hid (smallR_of_sz (X := X0) (by omega))
  have HL0 := Lib.hid HA.out.1
  have hnl : n0 ≤ 1048576 := by have := HSM.out.1; have := HL0.out; omega
  obtain ⟨R, hR⟩ : ∃ R, R = neededOf X0 := ⟨_, rfl⟩
  have hRl : R.length ≤ 1048576 := by rw [hR]; exact Nat.le_trans (neededOf_len X0) HSM.out.1
  have HSPEC : Hid (∀ (A : Option Addr) (c : Nat) (W : World), RdRc W W.heap.size A n0 X0 → Calls Try.prog 37 #[.agg #[.slice A n0 c]] W (RetNs W R)) := fun A c W h => by rw [hR]; exact spec_needed A n0 c X0 W HSM.out h
  have HIMPL : Hid (∀ (A : Option Addr) (c : Nat) (W : World), n0 ≤ c → RdRc W W.heap.size A n0 X0 → Calls Try.prog 36 #[.agg #[.slice A n0 c]] W (RetNs W R)) := fun A c W hc h => by rw [hR]; exact impl_needed A n0 c X0 W HSM.out hc h
  obtain ⟨nR, hnR⟩ : ∃ nR, nR = R.length := ⟨_, rfl⟩
  have HNR := Lib.hid hnR
  have hnRl : nR ≤ 1048576 := by rw [hnR]; exact hRl
  obtain ⟨K, hK⟩ : ∃ K, K = 1 + 6 * n0 := ⟨_, rfl⟩
  have HK := Lib.hid hK
  obtain ⟨M, hM⟩ : ∃ M, M = 1 + nR := ⟨_, rfl⟩
  have HM := Lib.hid hM
  have hMl : M ≤ 1048577 := by omega
  have hKl : K ≤ 6291457 := by omega
  clear hR hnR hRl hK hM
  go_wp2_with fail
  refine (toHist_any A0 n0 c0 X0 u1 (by omega) (HA.out.next HB1.out)).mono ?_
  rintro e u2 ⟨rfl, ho2, hb2⟩
  have HB2 := Lib.hid (HB1.out.trans (hb2.mono HB1.out.size))
  have HK2 := Lib.hid (HK1.out.below hb2 HK1.out.lt)
  have HO2 := Lib.hid ho2
  have h12 := hb2.size
  clear hb2 ho2 hx1
  go_wp2_with fail
  refine (HSPEC.out _ n0 u2 (HO2.out.rd (Nat.le_refl _))).mono ?_
  rintro e u3 ⟨Aw, cw, rfl, ho3, hb3⟩
  rw [← HNR.out] at ho3 ⊢
  have HB3 := Lib.hid (HB2.out.trans (hb3.mono HB2.out.size))
  have HK3 := Lib.hid (HK2.out.below hb3 HK2.out.lt)
  have HOW3 := Lib.hid ho3
  have h23 := hb3.size
  have hx3 : u3.cell? ⟨w.heap.size, 0, none⟩ = some (.slice A0 n0 c0) := HK3.out.cell rfl
  clear hb3 ho3 HO2 HSPEC
  go_wp2_with fail
  refine (toHist_any A0 n0 c0 X0 u3 (by omega) (HA.out.next HB3.out)).mono ?_
  rintro e u4 ⟨rfl, ho4, hb4⟩
  have HB4 := Lib.hid (HB3.out.trans (hb4.mono HB3.out.size))
  have HK4 := Lib.hid (HK3.out.below hb4 HK3.out.lt)
  have HOW4 := Lib.hid (HOW3.out.below hb4 (Nat.le_refl _))
  have HO4 := Lib.hid ho4
  have h34 := hb4.size
  clear hb4 ho4 hx3 HOW3
  go_wp2_with fail
  have hb5 : Below u4.heap.size u4 (u4.alloc (.cells #[.slice (some ⟨u3.heap.size + 3, 0, none⟩) n0 n0] 25)) := (Below.refl _ _).alloc (Nat.le_refl _) _
  have k5 := isBlk_new u4 25 [.slice (some ⟨u3.heap.size + 3, 0, none⟩) n0 n0]
  have hs5 := size_alloc u4 (.cells #[.slice (some ⟨u3.heap.size + 3, 0, none⟩) n0 n0] 25)
  change Calls _ _ _ (u4.alloc (.cells #[.slice (some ⟨u3.heap.size + 3, 0, none⟩) n0 n0] 25)) _
  generalize u4.alloc (.cells #[.slice (some ⟨u3.heap.size + 3, 0, none⟩) n0 n0] 25) = u5 at hb5 k5 hs5 ⊢
  have h45 : u4.heap.size < u5.heap.size := by omega
  clear hs5
  refine (HIMPL.out _ n0 u5 (Nat.le_refl _) ((HO4.out.below hb5 (Nat.le_refl _)).rd hb5.size)).mono ?_
  rintro e u6 ⟨Ag, cg, rfl, ho6, hb6⟩
  rw [← HNR.out] at ho6 ⊢
  have HB56 := Lib.hid hb6
  have HB46 := Lib.hid (hb5.trans (hb6.mono hb5.size))
  have HB6 := Lib.hid (HB4.out.trans (HB46.out.mono HB4.out.size))
  have HK6 := Lib.hid (HK4.out.below HB46.out HK4.out.lt)
  have HKX6 := Lib.hid (k5.below hb6 k5.lt)
  have HOW6 := Lib.hid (HOW4.out.below HB46.out (by omega))
  have HOX6 := Lib.hid (HO4.out.below HB46.out (Nat.le_refl _))
  have HOG6 := Lib.hid ho6
  have h56 := hb6.size
  clear hb5 hb6 k5 ho6 HO4 HOW4
  go_wp2_with fail
  refine (eqInt64S_same Ag Aw nR cg cw R u6 (by omega) (HOG6.out.rd (Nat.le_refl _)) (HOW6.out.rd (by omega))).mono ?_
  rintro e u7 ⟨rfl, hb7⟩
  have HB67 := Lib.hid hb7
  have h67 := hb7.size
  have hx7 : u7.cell? ⟨w.heap.size, 0, none⟩ = some (.slice A0 n0 c0) := (HK6.out.below hb7 HK6.out.lt).cell rfl
  have hy7 : u7.cell? ⟨u4.heap.size, 0, none⟩ = some (.slice (some ⟨u3.heap.size + 3, 0, none⟩) n0 n0) := (HKX6.out.below hb7 HKX6.out.lt).cell rfl
  have hlx : w.heap.size < u7.heap.size := by have := HK6.out.lt; omega
  have hly : u4.heap.size < u7.heap.size := by omega
  clear hb7
  go_wp2
  have HD7 : Hid (Below u7.heap.size u7 u7.drew) := (Below.refl _ _).drew
  have HR7 : Hid (RdRc u7.drew u7.drew.heap.size A0 n0 X0) := ((HA.out.next HB6.out).next HB67.out).next HD7.out
  have HOX7 : Hid (OwRc u7 u3.heap.size u4.heap.size (some ⟨u3.heap.size + 3, 0, none⟩) n0 X0) := HOX6.out.below HB67.out (by omega)
  go_region_held3 (fun w' => w'.cell? ⟨w.heap.size, 0, none⟩ = some (.slice A0 n0 c0) ∧ w'.cell? ⟨u4.heap.size, 0, none⟩ = some (.slice (some ⟨u3.heap.size + 3, 0, none⟩) n0 n0))
    (first | exact ⟨hx7, hy7⟩ | exact hsa | exact hsb | go_keep)
    (first
      | (go_at_call 39
         refine (toHist_any A0 n0 c0 X0 u7.drew (by omega) HR7.out).mono ?_
         rintro e ua ⟨rfl, hoa, hba⟩
         have hsa : ua.cell? ⟨w.heap.size, 0, none⟩ = some (.slice A0 n0 c0) ∧ ua.cell? ⟨u4.heap.size, 0, none⟩ = some (.slice (some ⟨u3.heap.size + 3, 0, none⟩) n0 n0) :=
           ⟨(hba.cell (p := ⟨w.heap.size, 0, none⟩) hlx).trans hx7, (hba.cell (p := ⟨u4.heap.size, 0, none⟩) hly).trans hy7⟩
         have HBa := Lib.hid (HD7.out.trans hba)
         have HOa := Lib.hid hoa
         clear hoa hba)
      | (go_at_call 41
         refine (eqHist_same _ _ n0 n0 n0 X0 _ (by omega) ((HOX7.out.below HBa.out (by omega)).rd (by have := HBa.out.size; omega)) (HOa.out.rd (Nat.le_refl _))).mono ?_
         rintro e ub ⟨rfl, hbb⟩
         have HBb := Lib.hid (HBa.out.trans (hbb.mono HBa.out.size))
         have hsb : ub.cell? ⟨w.heap.size, 0, none⟩ = some (.slice A0 n0 c0) ∧ ub.cell? ⟨u4.heap.size, 0, none⟩ = some (.slice (some ⟨u3.heap.size + 3, 0, none⟩) n0 n0) :=
           ⟨(HBb.out.cell (p := ⟨w.heap.size, 0, none⟩) hlx).trans hx7, (HBb.out.cell (p := ⟨u4.heap.size, 0, none⟩) hly).trans hy7⟩
         clear hbb))
  all_goals
    have HB6b : Hid (Below u6.heap.size u6 ub) := HB67.out.trans (HBb.out.mono HB67.out.size)
    have h6b := HB6b.out.size
    have hyb : ub.cell? ⟨u4.heap.size, 0, none⟩ = some (.slice (some ⟨u3.heap.size + 3, 0, none⟩) n0 n0) := hsb.2
    clear hsb hx7 hy7 hlx hly HR7 HOX7 HD7
    go_wp2_with fail
    refine (markHist_any _ u3.heap.size u4.heap.size n0 n0 1 X0 ub (by omega) (by omega) (by omega) (HOX6.out.below HB6b.out (by omega))).mono ?_
    rintro e um ⟨rfl, -, hbm⟩
    rw [← HK.out]
    have hbm6 : Btw u3.heap.size u4.heap.size u6 um := (Btw.of_below HB6b.out).trans hbm
    have h6m := hbm6.size
    have HBm : Hid (Below w.heap.size w um) := HB6.out.trans ((hbm6.below (by omega)).mono HB3.out.size)
    have HKm : Hid (IsBlk um w.heap.size 55 [.slice A0 n0 c0]) := (hbm6.block _ HK6.out.lt (by have := HK3.out.lt; omega)).trans HK6.out
    have HOWm := Lib.hid (HOW6.out.btw hbm6 (by omega) (by omega))
    have HOGm := Lib.hid (HOG6.out.btw hbm6 (by omega) (by omega))
    clear hbm hbm6 hyb
    go_wp2_with fail
    refine (eqInt64S_same Ag Aw nR cg cw R um (by omega) (HOGm.out.rd (by omega)) (HOWm.out.rd (by omega))).mono ?_
    rintro e un ⟨rfl, hbn⟩
    have HBn := Lib.hid hbn
    have hmn := hbn.size
    clear hbn
    go_wp2_with fail
    refine (markInt64S_any Ag u5.heap.size u6.heap.size nR cg 1 R un (by omega) (by omega) (HOGm.out.below HBn.out (by omega))).mono ?_
    rintro e up ⟨rfl, hmk, hbp⟩
    rw [← HM.out]
    have hbmp : Btw u5.heap.size u6.heap.size um up := (Btw.of_below HBn.out).trans hbp
    have hmp := hbmp.size
    have HBp : Hid (Below w.heap.size w up) := HBm.out.trans ((hbmp.below (by omega)).mono (by have := HB4.out.size; omega))
    have HKp : Hid (IsBlk up w.heap.size 55 [.slice A0 n0 c0]) := (hbmp.block _ HKm.out.lt (by have := HK3.out.lt; omega)).trans HKm.out
    have HOWp := Lib.hid (HOWm.out.btw hbmp (by omega) (by omega))
    have HMKp := Lib.hid hmk
    clear hbp hbmp hmk
    go_wp2_with fail
    refine (heldInt64S_any Ag u5.heap.size u6.heap.size nR cg 1 up (by omega) (by omega) HMKp.out).mono ?_
    rintro e uq ⟨rfl, hbq⟩
    rw [← HM.out]
    have HBpq := Lib.hid hbq
    have hpq := hbq.size
    have HBq := Lib.hid (HBp.out.trans (hbq.mono HBp.out.size))
    have HKq := Lib.hid (HKp.out.below hbq HKp.out.lt)
    have hxq : uq.cell? ⟨w.heap.size, 0, none⟩ = some (.slice A0 n0 c0) := HKq.out.cell rfl
    clear hbq
    go_wp2_with fail
    refine (toHist_any A0 n0 c0 X0 uq (by omega) (HA.out.next HBq.out)).mono ?_
    rintro e ur ⟨rfl, hor, hbr⟩
    have HBpr : Hid (Below up.heap.size up ur) := HBpq.out.trans (hbr.mono HBpq.out.size)
    have HOr := Lib.hid hor
    clear hbr hor hxq
    go_wp2_with fail
    refine (HIMPL.out _ n0 ur (Nat.le_refl _) (HOr.out.rd (Nat.le_refl _))).mono ?_
    rintro e us ⟨Ah, ch, rfl, hos, hbs⟩
    rw [← HNR.out] at hos ⊢
    have HBps : Hid (Below up.heap.size up us) := HBpr.out.trans (hbs.mono HBpr.out.size)
    have HOs := Lib.hid hos
    have hps := HBps.out.size
    clear hbs hos
    go_wp2_with fail
    refine (eqInt64S_same Ah Aw nR ch cw R us (by omega) (HOs.out.rd (Nat.le_refl _)) ((HOWp.out.below HBps.out (by omega)).rd (by omega))).mono ?_
    rintro e uu ⟨rfl, hbu⟩
    have HBpu : Hid (Below up.heap.size up uu) := HBps.out.trans (hbu.mono HBps.out.size)
    have hpu := HBpu.out.size
    clear hbu
    go_wp2_with fail
    refine (heldInt64S_any Ag u5.heap.size u6.heap.size nR cg 1 uu (by omega) (by omega) (HMKp.out.below HBpu.out (by omega))).mono ?_
    rintro e uv ⟨rfl, hbv⟩
    rw [← HM.out]
    have HBv := Lib.hid (HBp.out.trans ((HBpu.out.trans (hbv.mono HBpu.out.size)).mono HBp.out.size))
    clear hbv
    go_wp2
    go_ret
    exact ⟨rfl, HBv.out⟩

set_option maxHeartbeats 1000000 in
set_option maxRecDepth 100000 in
theorem lifted (os : Os) (started : os.Started) (H : Type) (enc : TypeId × Value → H) :
    ReturnsInHanded {} Try.checked os 5 .any (Rows.fnExactNeededSpec.pre6 enc Try.prog Try.f5 Rows.fnExactNeededRow.domain false) (Rows.fnExactNeededSpec.post enc Try.prog Try.f5 false true false false) := by
  refine returnsInHanded_of_change (C := Try.checked) own started (by kernel_rfl) Try.func5
    (ChangeSpec.witness6 (enc := enc) (C := Try.checked) false ⟨#[], #[.agg #[.slice none 0 0]], []⟩ 8 (by kernel_rfl) (by kernel_rfl) (by kernel_rfl) (by kernel_rfl)) ?_
  intro W base args ds gs before hval0 hW hcnd _
  have hval : ∀ (j : Nat) t v, Try.f5.params[j]? = some t → args[j]? = some v → Value.okWide Try.prog W .any base t v := hval0
  have hW' := hW
  obtain ⟨p, q, hA0, hV, rfl, hfz, hnd⟩ := hW
  have hA : DataW.TrodAll enc Try.prog W 0 (fun _ => true) true Try.f5.params.toList args.toList ds p := hA0
  rw [Try.params5] at hA hval
  obtain ⟨v0, vs0, d0, ds0, p0, q0, hargs, rfl, rfl, h0, z0⟩ := trodAll_cons hA
  obtain ⟨rfl, rfl, rfl⟩ := trodAll_nil z0
  obtain rfl : args = #[v0] := by cases args; simp_all
  obtain ⟨rfl, rfl⟩ := trodVars_none hV
  have k0 := h0
  have lt0 : ∀ x ∈ p0, x.block < W.heap.size := by obtain ⟨m, hm⟩ := k0; exact DataW.trod_lt m _ _ _ hm
  obtain ⟨A0, n0, c0, X0, rfl, w0, x0⟩ := open_lawsHist (hval 0 55 v0 rfl rfl) h0
  clear hA0 hval0
  refine (walk A0 n0 c0 X0 W w0 x0).mono fun e W' ⟨he, bel⟩ => ?_
  subst he
  exact ⟨_, rfl, _, _, _, [], _, [], hW', trodAll_mk1 (shut_bool Try.underlying4 _), (trodAll_cons_mk (Below.trod laidOut (by kernel_rfl) (of_decide_eq_true (by kernel_rfl)) k0 bel lt0) trodAll_mk0), rfl, bel.frame _, fun h => by cases h⟩

theorem over : Rows.fnExactNeededRow.holds Try.pinned (OpenSpec.ofChange Rows.fnExactNeededSpec) :=
  OpenClaim.holds_of_wide 5 Try.f5 rfl rfl rfl rfl rfl rfl rfl ⟨rfl, rfl, rfl, rfl, rfl⟩ rfl rfl rfl rfl rfl (by kernel_rfl) Try.func5 (by kernel_rfl)
    (of_decide_eq_true (by kernel_rfl)) (by unfold Func.isWrapper; first | (rw [if_pos (by decide +kernel)]; kernel_rfl) | (rw [if_neg (by decide +kernel)]; exact ⟨rfl, rfl⟩))
    (fun os started H enc _ => lifted os started H enc)

theorem proved : Rows.FnExactNeededSaid := over
#print axioms proved
end Go.Proofs.Ytimlaeicbnnbdaa.fnExactNeeded
