/-
  For every list of operations, the law FnExactDeltaBytes returns true: the program's DeltaBytes answers as the document's, it writes into no argument, and the arguments read afterwards as before. No condition.
-/
import Derived.Test.YtpgemeojhbeooaaRows
import Derived.Test.YtpgemeojhbeooaaDlLaw
import Derived.Test.YtpgemeojhbeooaaDlBytes
import Derived.Test.YtpgemeojhbeooaaDlBytesS
import Derived.WalkKit
import Derived.ProofKit
import Derived.OpenShut
import Derived.ShutString
import Derived.ChangeOld
import Derived.Below
namespace Go.Proofs.Ytpgemeojhbeooaa.fnExactDeltaBytes
open Go.ChangeShapes Go.WideShapes Go.ChangeAt Go.RowKit
open Go.ChangeMaps (open_string shut_string)
set_option linter.unusedVariables false

theorem own : ownKnob Try.prog.godebug = none := by kernel_rfl
theorem laidOut : laidOutB Try.prog = true := by kernel_rfl

set_option maxHeartbeats 4000000 in
set_option maxRecDepth 100000 in
theorem walk (A0 : Option Addr) (n0 c0 : Nat) (X0 : List Bt.Dop) (w : World) (w0 : RdDo w w.heap.size A0 n0 X0) (x0 : WideD X0) :
    Calls Try.prog 6 #[.slice A0 n0 c0] w fun e w' => e = .returned (.bool true) ∧ Below w.heap.size w w' := by
  have HA := Lib.hid w0; have HX := Lib.hid x0; clear w0 x0
  go_enter Try.func6, Try.ntmps6
  go_wp2_with fail
  refine (szDops_any A0 n0 c0 X0 1048576 _ (by omega) (by omega) HX.out HA.out).mono ?_
  rintro e u1 ⟨rfl, hb1⟩
  have HB1 := Lib.hid hb1
  clear hb1
  by_cases hs : ((szDos X0 : Nat) : Int) ≤ 1048576
  case neg =>
    have hz := szD_no (t := szDos X0) (left := 1048576) (by omega)
    go_wp2
    go_ret
    exact ⟨rfl, HB1.out⟩
  have hz := szD_ok hs
  have hnn : 0 ≤ 1048576 - ((szDos X0 : Nat) : Int) := by omega
  have HSM := Lib.hid (smallD_of_sz (X := X0) (by omega))
  have hnl : n0 ≤ 1048576 := by have := HSM.out.1; have := HA.out.1; omega
  have HFB : Hid (∀ o ∈ X0, o.f ≤ 9223372036854775807) := fun o ho => (HX.out.2.2 o ho).2
  have HW1 : Hid (∀ o ∈ X0, o.x.size ≤ 9223372036854775807) := fun o ho => Nat.le_trans (HSM.out.2 o ho) (by omega)
  go_wp2_with fail
  refine (toDops_any A0 n0 c0 X0 _ (by omega) (HA.out.next HB1.out)).mono ?_
  rintro e u2 ⟨rfl, ho2, hb2⟩
  have HB2 := Lib.hid (HB1.out.trans (hb2.mono HB1.out.size)); have HO2 := Lib.hid ho2
  clear hb2 ho2
  go_wp2_with fail
  refine (spec_deltaBytes _ n0 n0 X0 _ HW1.out HFB.out (by omega) (HO2.out.rd (Nat.le_refl _))).mono ?_
  rintro e u3 ⟨rfl, hb3⟩
  have HB3 := Lib.hid (HB2.out.trans (hb3.mono HB2.out.size))
  clear hb3
  go_wp2_with fail
  refine (toDops_any A0 n0 c0 X0 _ (by omega) (HA.out.next HB3.out)).mono ?_
  rintro e u4 ⟨rfl, ho4, hb4⟩
  have HB4 := Lib.hid (HB3.out.trans (hb4.mono HB3.out.size)); have HO4 := Lib.hid ho4
  clear hb4 ho4
  go_wp2_with fail
  refine (impl_deltaBytes _ n0 n0 X0 _ HW1.out HFB.out (by omega) (HO4.out.rd (Nat.le_refl _))).mono ?_
  rintro e u5 ⟨rfl, hb5⟩
  have HB5 := Lib.hid (HB4.out.trans (hb5.mono HB4.out.size)); have HO5 := Lib.hid (HO4.out.below hb5 (Nat.le_refl _))
  have h45 := hb5.size
  clear hb5
  generalize Bt.dBytes X0 = R
  have hq : ((bstr R).toList == (bstr R).toList) = true := by simp
  go_wp2_with fail
  refine (toDops_any A0 n0 c0 X0 _ (by omega) (HA.out.next HB5.out)).mono ?_
  rintro e u6 ⟨rfl, ho6, hb6⟩
  have HB6 := Lib.hid (HB5.out.trans (hb6.mono HB5.out.size)); have HO6 := Lib.hid ho6; have HP6 := Lib.hid (HO5.out.below hb6 h45)
  have h56 := hb6.size
  clear hb6 ho6
  go_wp2_with fail
  refine (eqDops_same _ _ n0 n0 n0 X0 _ (by omega) (HP6.out.rd (by omega)) (HO6.out.rd (Nat.le_refl _))).mono ?_
  rintro e u7 ⟨rfl, hb7⟩
  have HB7 := Lib.hid (HB6.out.trans (hb7.mono HB6.out.size))
  clear hb7
  go_wp2
  go_ret
  exact ⟨rfl, HB7.out⟩

set_option maxHeartbeats 1000000 in
set_option maxRecDepth 100000 in
theorem lifted (os : Os) (started : os.Started) (H : Type) (enc : TypeId × Value → H) :
    ReturnsInHanded {} Try.checked os 6 .any (Rows.fnExactDeltaBytesSpec.pre6 enc Try.prog Try.f6 Rows.fnExactDeltaBytesRow.domain false) (Rows.fnExactDeltaBytesSpec.post enc Try.prog Try.f6 false true false false) := by
  refine returnsInHanded_of_change (C := Try.checked) own started (by kernel_rfl) Try.func6
    (ChangeSpec.witness6 (enc := enc) (C := Try.checked) false ⟨#[], #[.slice none 0 0], []⟩ 8 (by kernel_rfl) (by kernel_rfl) (by kernel_rfl) (by kernel_rfl)) ?_
  intro W base args ds gs before hval0 hW hcnd _
  have hval : ∀ (j : Nat) t v, Try.f6.params[j]? = some t → args[j]? = some v → Value.okWide Try.prog W .any base t v := hval0
  have hW' := hW
  obtain ⟨p, q, hA0, hV, rfl, hfz, hnd⟩ := hW
  have hA : DataW.TrodAll enc Try.prog W 0 (fun _ => true) true Try.f6.params.toList args.toList ds p := hA0
  rw [Try.params6] at hA hval
  obtain ⟨v0, vs0, d0, ds0, p0, q0, hargs, rfl, rfl, h0, z0⟩ := trodAll_cons hA
  obtain ⟨rfl, rfl, rfl⟩ := trodAll_nil z0
  obtain rfl : args = #[v0] := by cases args; simp_all
  obtain ⟨rfl, rfl⟩ := trodVars_none hV
  have k0 := h0
  have lt0 : ∀ x ∈ p0, x.block < W.heap.size := by obtain ⟨m, hm⟩ := k0; exact DataW.trod_lt m _ _ _ hm
  obtain ⟨A0, n0, c0, X0, rfl, w0, x0⟩ := open_lawsOps (hval 0 22 v0 rfl rfl) h0
  clear hA0 hval0
  refine (walk A0 n0 c0 X0 W w0 x0).mono fun e W' ⟨he, bel⟩ => ?_
  subst he
  exact ⟨_, rfl, _, _, _, [], _, [], hW', trodAll_mk1 (shut_bool Try.underlying4 _), (trodAll_cons_mk (Below.trod laidOut (by kernel_rfl) (of_decide_eq_true (by kernel_rfl)) k0 bel lt0) trodAll_mk0), rfl, bel.frame _, fun h => by cases h⟩

theorem over : Rows.fnExactDeltaBytesRow.holds Try.pinned (OpenSpec.ofChange Rows.fnExactDeltaBytesSpec) :=
  OpenClaim.holds_of_wide 6 Try.f6 rfl rfl rfl rfl rfl rfl rfl ⟨rfl, rfl, rfl, rfl, rfl⟩ rfl rfl rfl rfl rfl (by kernel_rfl) Try.func6 (by kernel_rfl)
    (of_decide_eq_true (by kernel_rfl)) (by unfold Func.isWrapper; first | (rw [if_pos (by decide +kernel)]; kernel_rfl) | (rw [if_neg (by decide +kernel)]; exact ⟨rfl, rfl⟩))
    (fun os started H enc _ => lifted os started H enc)

theorem proved : Rows.FnExactDeltaBytesSaid := over
#print axioms proved
end Go.Proofs.Ytpgemeojhbeooaa.fnExactDeltaBytes
