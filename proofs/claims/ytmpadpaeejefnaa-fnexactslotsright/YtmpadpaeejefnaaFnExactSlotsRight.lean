/-
  For every pair of slots, the law FnExactSlotsRight returns true: the program's SlotsRight answers as the document's. No condition.
-/
import Derived.Test.YtmpadpaeejefnaaRows
import Derived.Test.YtmpadpaeejefnaaCkSlots
import Derived.WalkKit
import Derived.ProofKit
import Derived.OpenShut
import Derived.ShutString
import Derived.ChangeOld
import Derived.Below
namespace Go.Proofs.Ytmpadpaeejefnaa.fnExactSlotsRight
open Go.ChangeShapes Go.WideShapes Go.ChangeAt Go.RowKit
open Go.ChangeMaps (open_string shut_string)
set_option linter.unusedVariables false

theorem own : ownKnob Try.prog.godebug = none := by kernel_rfl
theorem laidOut : laidOutB Try.prog = true := by kernel_rfl

set_option maxHeartbeats 4000000 in
set_option maxRecDepth 100000 in
theorem walk (a0 b0 : ByteArray) (w : World) (w0 : a0.size ≤ maxLen ∧ b0.size ≤ maxLen) :
    Calls Try.prog 4 #[.agg #[.string a0, .string b0]] w fun e w' => e = .returned (.bool true) ∧ Below w.heap.size w w' := by
  obtain ⟨wa, wb⟩ := w0
  go_enter Try.func4, Try.ntmps4
  go_wp2_with fail
  have hb0 : Below w.heap.size w (w.alloc (.cells #[.string a0, .string b0] 34)) := (Below.refl _ _).alloc (Nat.le_refl _) _
  have k0 := isBlk_new w 34 [.string a0, .string b0]
  change IsBlk (w.alloc (.cells #[.string a0, .string b0] 34)) _ _ _ at k0
  generalize w.alloc (.cells #[.string a0, .string b0] 34) = W at hb0 k0 ⊢
  refine (szSlots_any a0 b0 1048576 W (by omega) (by omega) wa wb).mono ?_
  rintro e u1 ⟨rfl, hb1⟩
  have HB1 := Lib.hid (hb0.trans (hb1.mono hb0.size))
  have HK1 := Lib.hid (k0.below hb1 k0.lt)
  clear hb1 hb0 k0
  by_cases hs : ((a0.size + b0.size : Nat) : Int) ≤ 1048576
  case neg =>
    have hz := szR_no (t := a0.size + b0.size) (left := 1048576) (by omega)
    go_wp2
    go_ret
    exact ⟨rfl, HB1.out⟩
  have hz := szR_ok hs
  have hnn : 0 ≤ 1048576 - ((a0.size + b0.size : Nat) : Int) := by omega
  have c0 : u1.cell? ⟨w.heap.size, 0, none⟩ = some (.string a0) := HK1.out.cell rfl
  have c1 : u1.cell? ⟨w.heap.size, 1, none⟩ = some (.string b0) := HK1.out.cell rfl
  rw [hz]
  go_wp2_with fail
  refine (toSlots_any a0 b0 _).mono ?_
  rintro e u2 ⟨rfl, hb2⟩
  have HB2 := Lib.hid (HB1.out.trans (hb2.mono HB1.out.size))
  have HK2 := Lib.hid (HK1.out.below hb2 HK1.out.lt)
  clear hb2 c0 c1
  go_wp2_with fail
  refine (spec_slotsRight a0 b0 _ wa wb).mono ?_
  rintro e u3 ⟨rfl, hb3⟩
  have HB3 := Lib.hid (HB2.out.trans (hb3.mono HB2.out.size))
  have HK3 := Lib.hid (HK2.out.below hb3 HK2.out.lt)
  clear hb3
  have c0 : u3.cell? ⟨w.heap.size, 0, none⟩ = some (.string a0) := HK3.out.cell rfl
  have c1 : u3.cell? ⟨w.heap.size, 1, none⟩ = some (.string b0) := HK3.out.cell rfl
  go_wp2_with fail
  refine (toSlots_any a0 b0 _).mono ?_
  rintro e u4 ⟨rfl, hb4⟩
  have HB4 := Lib.hid (HB3.out.trans (hb4.mono HB3.out.size))
  clear hb4 c0 c1
  go_wp2_with fail
  refine (impl_slotsRight a0 b0 _ wa wb).mono ?_
  rintro e u5 ⟨rfl, hb5⟩
  have HB5 := Lib.hid (HB4.out.trans (hb5.mono HB4.out.size))
  clear hb5
  generalize slotB a0 b0 = R
  have hq : (R != R) = false := by cases R <;> rfl
  go_wp2
  go_ret
  exact ⟨rfl, HB5.out⟩

set_option maxHeartbeats 1000000 in
set_option maxRecDepth 100000 in
theorem lifted (os : Os) (started : os.Started) (H : Type) (enc : TypeId × Value → H) :
    ReturnsInHanded {} Try.checked os 4 .any (Rows.fnExactSlotsRightSpec.pre6 enc Try.prog Try.f4 Rows.fnExactSlotsRightRow.domain false) (Rows.fnExactSlotsRightSpec.post enc Try.prog Try.f4 false true false false) := by
  refine returnsInHanded_of_change (C := Try.checked) own started (by kernel_rfl) Try.func4
    (ChangeSpec.witness6 (enc := enc) (C := Try.checked) false ⟨#[], #[.agg #[.string ByteArray.empty, .string ByteArray.empty]], []⟩ 8 (by kernel_rfl) (by kernel_rfl) (by kernel_rfl) (by kernel_rfl)) ?_
  intro W base args ds gs before hval0 hW hcnd _
  have hval : ∀ (j : Nat) t v, Try.f4.params[j]? = some t → args[j]? = some v → Value.okWide Try.prog W .any base t v := hval0
  have hW' := hW
  obtain ⟨p, q, hA0, hV, rfl, hfz, hnd⟩ := hW
  have hA : DataW.TrodAll enc Try.prog W 0 (fun _ => true) true Try.f4.params.toList args.toList ds p := hA0
  rw [Try.params4] at hA hval
  obtain ⟨v0, vs0, d0, ds0, p0, q0, hargs, rfl, rfl, h0, z0⟩ := trodAll_cons hA
  obtain ⟨rfl, rfl, rfl⟩ := trodAll_nil z0
  obtain rfl : args = #[v0] := by cases args; simp_all
  obtain ⟨rfl, rfl⟩ := trodVars_none hV
  have k0 := h0
  have lt0 : ∀ x ∈ p0, x.block < W.heap.size := by obtain ⟨m, hm⟩ := k0; exact DataW.trod_lt m _ _ _ hm
  obtain ⟨a0, b0, rfl, w0⟩ := open_lawsSlots (hval 0 34 v0 rfl rfl) h0
  clear hA0 hval0
  refine (walk a0 b0 W w0).mono fun e W' ⟨he, bel⟩ => ?_
  subst he
  exact ⟨_, rfl, _, _, _, [], _, [], hW', trodAll_mk1 (shut_bool Try.underlying4 _), (trodAll_cons_mk (Below.trod laidOut (by kernel_rfl) (of_decide_eq_true (by kernel_rfl)) k0 bel lt0) trodAll_mk0), rfl, bel.frame _, fun h => by cases h⟩

theorem over : Rows.fnExactSlotsRightRow.holds Try.pinned (OpenSpec.ofChange Rows.fnExactSlotsRightSpec) :=
  OpenClaim.holds_of_wide 4 Try.f4 rfl rfl rfl rfl rfl rfl rfl ⟨rfl, rfl, rfl, rfl, rfl⟩ rfl rfl rfl rfl rfl (by kernel_rfl) Try.func4 (by kernel_rfl)
    (of_decide_eq_true (by kernel_rfl)) (by unfold Func.isWrapper; first | (rw [if_pos (by decide +kernel)]; kernel_rfl) | (rw [if_neg (by decide +kernel)]; exact ⟨rfl, rfl⟩))
    (fun os started H enc _ => lifted os started H enc)

theorem proved : Rows.FnExactSlotsRightSaid := over
#print axioms proved
end Go.Proofs.Ytmpadpaeejefnaa.fnExactSlotsRight
