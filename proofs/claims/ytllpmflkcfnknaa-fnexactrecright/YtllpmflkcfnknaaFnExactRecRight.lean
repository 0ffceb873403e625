/-
  For every record, the law FnExactRecRight returns true: the program's RecRight answers as the document's, and the argument reads afterwards as before. No condition.
-/
import Derived.Test.YtllpmflkcfnknaaRows
import Derived.Test.YtllpmflkcfnknaaRcOpen
import Derived.WalkKit
import Derived.ProofKit
import Derived.OpenShut
import Derived.ShutString
import Derived.ChangeOld
import Derived.Below
namespace Go.Proofs.Ytllpmflkcfnknaa.fnExactRecRight
open Go.ChangeShapes Go.WideShapes Go.ChangeAt Go.RowKit
open Go.ChangeMaps (open_string shut_string)
set_option linter.unusedVariables false

theorem own : ownKnob Try.prog.godebug = none := by kernel_rfl
theorem laidOut : laidOutB Try.prog = true := by kernel_rfl

theorem walk (r0 : Bt.Rc) (w : World) (w0 : r0.d.size ≤ maxLen) :
    Calls Try.prog 15 #[recV r0] w fun e w' => e = .returned (.bool true) ∧ Below w.heap.size w w' := by
  have hw0 := w0
  go_enter Try.func15, Try.ntmps15
  go_wp2_with fail
  refine (szRec_any _ _ w0).mono ?_
  rintro e w1 ⟨rfl, hb1⟩
  obtain ⟨HB1, HK1⟩ := rcStep ((Below.refl w.heap.size w).alloc (Nat.le_refl _) _) (isBlk_new w 60 (recC r0)) hb1
  clear hb1
  by_cases hbig : 1048576 < (r0.d.size : Int)
  · rw [if_pos hbig]
    go_wp2
    go_ret
    exact ⟨rfl, HB1.out⟩
  rw [if_neg hbig]
  have hle : 0 ≤ 1048576 - (r0.d.size : Int) := by omega
  obtain ⟨hc0, hc1, hc2, hc3, hc4, hc5⟩ := rcCells HK1.out
  go_wp2_with fail
  refine (toRec_any r0 _).mono ?_
  rintro e w2 ⟨rfl, hb2⟩
  obtain ⟨HB2, HK2⟩ := rcStep HB1.out HK1.out hb2
  clear hb2 hc0 hc1 hc2 hc3 hc4 hc5
  go_wp2_with fail
  refine (spec_recRight_any _ _ w0).mono ?_
  rintro e w3 ⟨rfl, hb3⟩
  obtain ⟨HB3, HK3⟩ := rcStep HB2.out HK2.out hb3
  clear hb3
  obtain ⟨hc0, hc1, hc2, hc3, hc4, hc5⟩ := rcCells HK3.out
  go_wp2_with fail
  refine (toRec_any r0 _).mono ?_
  rintro e w4 ⟨rfl, hb4⟩
  obtain ⟨HB4, HK4⟩ := rcStep HB3.out HK3.out hb4
  clear hb4 hc0 hc1 hc2 hc3 hc4 hc5
  go_wp2_with fail
  refine (impl_recRight_any _ _ w0).mono ?_
  rintro e w5 ⟨rfl, hb5⟩
  obtain ⟨HB5, HK5⟩ := rcStep HB4.out HK4.out hb5
  clear hb5
  go_wp2
  go_ret
  exact ⟨rfl, HB5.out⟩

set_option maxRecDepth 100000 in
theorem lifted (os : Os) (started : os.Started) (H : Type) (enc : TypeId × Value → H) :
    ReturnsInHanded {} Try.checked os 15 .any (Rows.fnExactRecRightSpec.pre6 enc Try.prog Try.f15 Rows.fnExactRecRightRow.domain false) (Rows.fnExactRecRightSpec.post enc Try.prog Try.f15 false true false false) := by
  refine returnsInHanded_of_change (C := Try.checked) own started (by kernel_rfl) Try.func15
    (ChangeSpec.witness6 (enc := enc) (C := Try.checked) false ⟨#[], #[.agg #[.int .i64 0, .int .i64 0, .int .i64 0, .int .i64 0, .int .i64 0, .string ByteArray.empty]], []⟩ 8 (by kernel_rfl) (by kernel_rfl) (by kernel_rfl) (by kernel_rfl)) ?_
  intro W base args ds gs before hval0 hW hcnd _
  have hval : ∀ (j : Nat) t v, Try.f15.params[j]? = some t → args[j]? = some v → Value.okWide Try.prog W .any base t v := hval0
  have hW' := hW
  obtain ⟨p, q, hA0, hV, rfl, hfz, hnd⟩ := hW
  have hA : DataW.TrodAll enc Try.prog W 0 (fun _ => true) true Try.f15.params.toList args.toList ds p := hA0
  rw [Try.params15] at hA hval
  obtain ⟨v0, vs0, d0, ds0, p0, q0, hargs, rfl, rfl, h0, r0⟩ := trodAll_cons hA
  obtain ⟨rfl, rfl, rfl⟩ := trodAll_nil r0
  obtain rfl : args = #[v0] := by cases args; simp_all
  obtain ⟨rfl, rfl⟩ := trodVars_none hV
  have k0 := h0
  have lt0 : ∀ x ∈ p0, x.block < W.heap.size := by obtain ⟨m, hm⟩ := k0; exact DataW.trod_lt m _ _ _ hm
  obtain ⟨r0, rfl, w0⟩ := open_lawsRec (hval 0 60 v0 rfl rfl) h0
  clear hA0 hval0
  refine (walk r0 W w0).mono fun e W' ⟨he, bel⟩ => ?_
  subst he
  exact ⟨_, rfl, _, _, _, [], _, [], hW', trodAll_mk1 (shut_bool Try.underlying4 _), (trodAll_cons_mk (Below.trod laidOut (by kernel_rfl) (of_decide_eq_true (by kernel_rfl)) k0 bel lt0) trodAll_mk0), rfl, bel.frame _, fun h => by cases h⟩

theorem over : Rows.fnExactRecRightRow.holds Try.pinned (OpenSpec.ofChange Rows.fnExactRecRightSpec) :=
  OpenClaim.holds_of_wide 15 Try.f15 rfl rfl rfl rfl rfl rfl rfl ⟨rfl, rfl, rfl, rfl, rfl⟩ rfl rfl rfl rfl rfl (by kernel_rfl) Try.func15 (by kernel_rfl)
    (of_decide_eq_true (by kernel_rfl)) (by unfold Func.isWrapper; first | (rw [if_pos (by decide +kernel)]; kernel_rfl) | (rw [if_neg (by decide +kernel)]; exact ⟨rfl, rfl⟩))
    (fun os started H enc _ => lifted os started H enc)

theorem proved : Rows.FnExactRecRightSaid := over
#print axioms proved
end Go.Proofs.Ytllpmflkcfnknaa.fnExactRecRight
