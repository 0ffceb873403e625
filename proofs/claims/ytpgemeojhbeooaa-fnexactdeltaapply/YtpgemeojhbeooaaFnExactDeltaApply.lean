/-
  For every base and every list of operations, the law FnExactDeltaApply returns true: the program's DeltaApply answers as the document's, it writes into no argument, and the arguments read afterwards as before. No condition.
-/
import Derived.Test.YtpgemeojhbeooaaRows
import Derived.Test.YtpgemeojhbeooaaDlLaw
import Derived.Test.YtpgemeojhbeooaaDlSpecA
import Derived.WalkKit
import Derived.ProofKit
import Derived.OpenShut
import Derived.ShutString
import Derived.ChangeOld
import Derived.Below
namespace Go.Proofs.Ytpgemeojhbeooaa.fnExactDeltaApply
open Go.ChangeShapes Go.WideShapes Go.ChangeAt Go.RowKit
open Go.ChangeMaps (open_string shut_string)
set_option linter.unusedVariables false

theorem own : ownKnob Try.prog.godebug = none := by kernel_rfl
theorem laidOut : laidOutB Try.prog = true := by kernel_rfl

set_option maxHeartbeats 4000000 in
set_option maxRecDepth 100000 in
theorem walk (a0 : ByteArray) (A1 : Option Addr) (n1 c1 : Nat) (X1 : List Bt.Dop) (w : World) (w0 : a0.size ≤ maxLen) (w1 : RdDo w w.heap.size A1 n1 X1) (x1 : WideD X1) :
    Calls Try.prog 4 #[.string a0, .slice A1 n1 c1] w fun e w' => e = .returned (.bool true) ∧ Below w.heap.size w w' := by
  have HA := Lib.hid w1; have HX := Lib.hid x1; clear w1 x1
  have hmx : maxLen = 9223372036854775807 := rfl
  rw [hmx] at w0
  clear hmx
  by_cases h0 : a0.size ≤ 1048576
  case neg =>
    have h0' : 1048576 < a0.size := by omega
    go_enter Try.func4, Try.ntmps4
    go_wp2
    go_ret
    exact ⟨rfl, Below.refl _ _⟩
  go_enter Try.func4, Try.ntmps4
  go_wp2_with fail
  refine (szDops_any A1 n1 c1 X1 1048576 _ (by omega) (by omega) HX.out HA.out).mono ?_
  rintro e u1 ⟨rfl, hb1⟩
  have HB1 := Lib.hid hb1
  clear hb1
  by_cases hs : ((szDos X1 : Nat) : Int) ≤ 1048576
  case neg =>
    have hz := szD_no (t := szDos X1) (left := 1048576) (by omega)
    go_wp2
    go_ret
    exact ⟨rfl, HB1.out⟩
  have hz := szD_ok hs
  have hnn : 0 ≤ 1048576 - ((szDos X1 : Nat) : Int) := by omega
  have HSM := Lib.hid (smallD_of_sz (X := X1) (by omega))
  have hnl : n1 ≤ 1048576 := by have := HSM.out.1; have := HA.out.1; omega
  have HW1 : Hid (∀ o ∈ X1, o.x.size ≤ 9223372036854775807) := fun o ho => Nat.le_trans (HSM.out.2 o ho) (by omega)
  obtain ⟨R, hR⟩ : ∃ R, R = apList a0 X1 := ⟨_, rfl⟩
  obtain ⟨C, hC⟩ : ∃ C, C = apCode a0 X1 := ⟨_, rfl⟩
  have HSPEC : Hid (∀ (A : Option Addr) (W : World), RdDo W W.heap.size A n1 X1 → Calls Try.prog 13 #[.string a0, .slice A n1 n1] W fun e w' => e = .returned (toutV R 0 C) ∧ Below W.heap.size W w') := fun A W h => by rw [hR, hC]; exact spec_deltaApply a0 A n1 n1 X1 W (by omega) HW1.out (by omega) h
  have HIMPL : Hid (∀ (A : Option Addr) (W : World), RdDo W W.heap.size A n1 X1 → Calls Try.prog 14 #[.string a0, .slice A n1 n1] W fun e w' => e = .returned (toutV R 0 C) ∧ Below W.heap.size W w') := fun A W h => by rw [hR, hC]; exact impl_deltaApply a0 A n1 n1 X1 W (by omega) HW1.out (by omega) h
  clear hR hC
  go_wp2_with fail
  refine (toDops_any A1 n1 c1 X1 _ (by omega) (HA.out.next HB1.out)).mono ?_
  rintro e u2 ⟨rfl, ho2, hb2⟩
  have HB2 := Lib.hid (HB1.out.trans (hb2.mono HB1.out.size)); have HO2 := Lib.hid ho2
  clear hb2 ho2
  go_wp2_with fail
  refine (HSPEC.out _ _ (HO2.out.rd (Nat.le_refl _))).mono ?_
  rintro e u3 ⟨rfl, hb3⟩
  have HB3' := Lib.hid (HB2.out.trans (hb3.mono HB2.out.size))
  clear hb3
  go_wp2_with fail
  have HB3 : Hid (Below w.heap.size w (u3.alloc (.cells #[.string (bstr R), .int .i64 0, .int .i64 C] 30))) := HB3'.out.alloc HB3'.out.size _
  have k3 := isBlk_new u3 30 [.string (bstr R), .int .i64 0, .int .i64 C]
  change Calls _ _ _ (u3.alloc (.cells #[.string (bstr R), .int .i64 0, .int .i64 C] 30)) _
  change IsBlk (u3.alloc (.cells #[.string (bstr R), .int .i64 0, .int .i64 C] 30)) _ _ _ at k3
  generalize u3.alloc (.cells #[.string (bstr R), .int .i64 0, .int .i64 C] 30) = u3b at HB3 k3 ⊢
  clear HB3'
  refine (toDops_any A1 n1 c1 X1 _ (by omega) (HA.out.next HB3.out)).mono ?_
  rintro e u4 ⟨rfl, ho4, hb4⟩
  have HB4 := Lib.hid (HB3.out.trans (hb4.mono HB3.out.size)); have HO4 := Lib.hid ho4
  have k4 := k3.below hb4 k3.lt
  clear hb4 ho4 k3
  go_wp2_with fail
  refine (HIMPL.out _ _ (HO4.out.rd (Nat.le_refl _))).mono ?_
  rintro e u5 ⟨rfl, hb5⟩
  have HB5 := Lib.hid (HB4.out.trans (hb5.mono HB4.out.size)); have HO5 := Lib.hid (HO4.out.below hb5 (Nat.le_refl _))
  have h45 := hb5.size
  have k5 := k4.below hb5 k4.lt
  clear hb5 k4
  have hc30 : u5.cell? ⟨u3.heap.size, 0, none⟩ = some _ := k5.cell rfl
  have hc31 : u5.cell? ⟨u3.heap.size, 1, none⟩ = some _ := k5.cell rfl
  have hc32 : u5.cell? ⟨u3.heap.size, 2, none⟩ = some _ := k5.cell rfl
  have hlt5 := k5.lt
  clear k5
  go_wp2_with fail
  have hb6 : Below w.heap.size w (u5.alloc (.cells #[.string (bstr R), .int .i64 0, .int .i64 C] 30)) := HB5.out.alloc HB5.out.size _
  change Calls _ _ _ (u5.alloc (.cells #[.string (bstr R), .int .i64 0, .int .i64 C] 30)) _
  have HO6 := Lib.hid (HO5.out.below (Below.refl u5.heap.size u5 |>.alloc (Nat.le_refl _) (.cells #[.string (bstr R), .int .i64 0, .int .i64 C] 30)) h45)
  have h56 : u4.heap.size ≤ (u5.alloc (.cells #[.string (bstr R), .int .i64 0, .int .i64 C] 30)).heap.size := by simp; omega
  generalize u5.alloc (.cells #[.string (bstr R), .int .i64 0, .int .i64 C] 30) = u6 at hb6 HO6 h56 ⊢
  have HB6 := Lib.hid hb6; clear hb6
  refine (eqTextOut_same _ _ _ _).mono ?_
  rintro e u7 ⟨rfl, hb7⟩
  have HB7 := Lib.hid (HB6.out.trans (hb7.mono HB6.out.size)); have HO7 := Lib.hid (HO6.out.below hb7 h56)
  have h67 := hb7.size
  clear hb7 hc30 hc31 hc32
  go_wp2_with fail
  refine (toDops_any A1 n1 c1 X1 _ (by omega) (HA.out.next HB7.out)).mono ?_
  rintro e u8 ⟨rfl, ho8, hb8⟩
  have HB8 := Lib.hid (HB7.out.trans (hb8.mono HB7.out.size)); have HO8 := Lib.hid ho8; have HP8 := Lib.hid (HO7.out.below hb8 (by omega))
  have h78 := hb8.size
  clear hb8 ho8
  go_wp2_with fail
  refine (eqDops_same _ _ n1 n1 n1 X1 _ (by omega) (HP8.out.rd (by omega)) (HO8.out.rd (Nat.le_refl _))).mono ?_
  rintro e u9 ⟨rfl, hb9⟩
  have HB9 := Lib.hid (HB8.out.trans (hb9.mono HB8.out.size))
  clear hb9
  go_wp2
  go_ret
  exact ⟨rfl, HB9.out⟩

set_option maxHeartbeats 1000000 in
set_option maxRecDepth 100000 in
theorem lifted (os : Os) (started : os.Started) (H : Type) (enc : TypeId × Value → H) :
    ReturnsInHanded {} Try.checked os 4 .any (Rows.fnExactDeltaApplySpec.pre6 enc Try.prog Try.f4 Rows.fnExactDeltaApplyRow.domain false) (Rows.fnExactDeltaApplySpec.post enc Try.prog Try.f4 false true false false) := by
  refine returnsInHanded_of_change (C := Try.checked) own started (by kernel_rfl) Try.func4
    (ChangeSpec.witness6 (enc := enc) (C := Try.checked) false ⟨#[], #[.string ByteArray.empty, .slice none 0 0], []⟩ 8 (by kernel_rfl) (by kernel_rfl) (by kernel_rfl) (by kernel_rfl)) ?_
  intro W base args ds gs before hval0 hW hcnd _
  have hval : ∀ (j : Nat) t v, Try.f4.params[j]? = some t → args[j]? = some v → Value.okWide Try.prog W .any base t v := hval0
  have hW' := hW
  obtain ⟨p, q, hA0, hV, rfl, hfz, hnd⟩ := hW
  have hA : DataW.TrodAll enc Try.prog W 0 (fun _ => true) true Try.f4.params.toList args.toList ds p := hA0
  rw [Try.params4] at hA hval
  obtain ⟨v0, vs0, d0, ds0, p0, q0, hargs, rfl, rfl, h0, z0⟩ := trodAll_cons hA
  obtain ⟨v1, vs1, d1, ds1, p1, q1, rfl, rfl, rfl, h1, z1⟩ := trodAll_cons z0
  obtain ⟨rfl, rfl, rfl⟩ := trodAll_nil z1
  obtain rfl : args = #[v0, v1] := by cases args; simp_all
  obtain ⟨rfl, rfl⟩ := trodVars_none hV
  obtain ⟨a0, rfl, rfl, rfl, w0⟩ := open_string Try.underlying9 (hval 0 9 v0 rfl rfl) h0
  have k1 := h1
  have lt1 : ∀ x ∈ p1, x.block < W.heap.size := by obtain ⟨m, hm⟩ := k1; exact DataW.trod_lt m _ _ _ hm
  obtain ⟨A1, n1, c1, X1, rfl, w1, x1⟩ := open_lawsOps (hval 1 22 v1 rfl rfl) h1
  clear hA0 hval0
  refine (walk a0 A1 n1 c1 X1 W w0 w1 x1).mono fun e W' ⟨he, bel⟩ => ?_
  subst he
  exact ⟨_, rfl, _, _, _, [], _, [], hW', trodAll_mk1 (shut_bool Try.underlying4 _), (trodAll_cons_mk (shut_string Try.underlying9 w0) (trodAll_cons_mk (Below.trod laidOut (by kernel_rfl) (of_decide_eq_true (by kernel_rfl)) k1 bel lt1) trodAll_mk0)), rfl, bel.frame _, fun h => by cases h⟩

theorem over : Rows.fnExactDeltaApplyRow.holds Try.pinned (OpenSpec.ofChange Rows.fnExactDeltaApplySpec) :=
  OpenClaim.holds_of_wide 4 Try.f4 rfl rfl rfl rfl rfl rfl rfl ⟨rfl, rfl, rfl, rfl, rfl⟩ rfl rfl rfl rfl rfl (by kernel_rfl) Try.func4 (by kernel_rfl)
    (of_decide_eq_true (by kernel_rfl)) (by unfold Func.isWrapper; first | (rw [if_pos (by decide +kernel)]; kernel_rfl) | (rw [if_neg (by decide +kernel)]; exact ⟨rfl, rfl⟩))
    (fun os started H enc _ => lifted os started H enc)

theorem proved : Rows.FnExactDeltaApplySaid := over
#print axioms proved
end Go.Proofs.Ytpgemeojhbeooaa.fnExactDeltaApply
