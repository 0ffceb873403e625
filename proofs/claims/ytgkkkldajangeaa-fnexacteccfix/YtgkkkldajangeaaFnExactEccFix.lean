/-
  For every string text and every integer ecc, the law FnExactEccFix returns true: the program's EccFix answers as the document's, every field, and the arguments read afterwards as before. No condition.
-/
import Derived.Test.YtgkkkldajangeaaRows
import Derived.Test.YtgkkkldajangeaaEcL
import Derived.WalkKit
import Derived.ProofKit
import Derived.OpenShut
import Derived.ShutString
import Derived.ChangeOld
import Derived.Below
namespace Go.Proofs.Ytgkkkldajangeaa.fnExactEccFix
open Go.ChangeShapes Go.WideShapes Go.ChangeAt Go.RowKit
open Go.ChangeMaps (open_string shut_string)
set_option linter.unusedVariables false      -- a walk need not use every 'w<i>' (that an integer argument fits its kind)

theorem own : ownKnob Try.prog.godebug = none := by kernel_rfl

/-! ### STEP 1: THE WALK: the Go text returns true. 'Grown w w'': the world has at most new blocks (Derived/RowKit3.lean). Part the cases AHEAD of 'go_enter' where a test parts the walk; take each callee by a contract of your own. -/
theorem walk (a0 : ByteArray) (a1 : Int) (w0 : a0.size ≤ maxLen) (w1 : (Lit.int .i64 a1).wf = true) (w : World) :
    Calls Try.prog 7 #[.string a0, .int .i64 a1] w fun e w' => e = .returned (.bool true) ∧ Below w.heap.size w w' := by
  obtain ⟨h1, h2⟩ := bounds_i64 w1
  by_cases hbig : 1048576 < a0.size
  · go_enter Try.func7, Try.ntmps7
    go_wp2
    go_ret
    exact ⟨rfl, Below.refl _ _⟩
  go_enter Try.func7, Try.ntmps7
  go_wp2_with fail
  refine (spec_eccFix _ _ _ w0 (by omega) (by omega)).mono ?_
  rintro e u1 ⟨rfl, hb1⟩
  obtain ⟨T, hT⟩ : ∃ T, T = bstr (Bt.fixText a0 a1) := ⟨_, rfl⟩
  obtain ⟨P, hP⟩ : ∃ P : Int, P = (Bt.fixAt a0 a1 : Nat) := ⟨_, rfl⟩
  obtain ⟨C, hC⟩ : ∃ C, C = Bt.fixCode a0 a1 := ⟨_, rfl⟩
  have HV : Hid (fixV a0 a1 = .agg #[.string T, .int .i64 P, .int .i64 C]) := by show _ = _; rw [hT, hP, hC]; rfl
  rw [HV.out]
  clear hT hP hC
  have HB1 := Lib.hid hb1; clear hb1
  go_wp2_with fail
  refine (impl_eccFix _ _ _ w0 (by omega) (by omega)).mono ?_
  rintro e u2 ⟨rfl, hb2⟩
  rw [HV.out]
  have hk2 := (isBlk_new u1 58 [.string T, .int .i64 P, .int .i64 C]).below hb2 (by simp)
  have HB2 := Lib.hid (HB1.out.trans (((Below.refl _ _).alloc HB1.out.size _).trans (hb2.mono (by have := HB1.out.size; simp; omega))))
  have hc0 : u2.cell? ⟨u1.heap.size, 0, none⟩ = some _ := hk2.cell rfl
  have hc1 : u2.cell? ⟨u1.heap.size, 1, none⟩ = some _ := hk2.cell rfl
  have hc2 : u2.cell? ⟨u1.heap.size, 2, none⟩ = some _ := hk2.cell rfl
  have hz := hk2.lt
  clear hb2 hk2
  go_wp2_with fail
  refine (eqFixOut_same _ _ _ _).mono ?_
  rintro e u3 ⟨rfl, hb3⟩
  have HB3 := Lib.hid (HB2.out.trans (((Below.refl _ _).alloc HB2.out.size _).trans (hb3.mono (by have := HB2.out.size; simp; omega))))
  clear hb3
  go_wp2
  go_ret
  exact ⟨rfl, HB3.out⟩

/-! ### THE ROW's STEP: WRITTEN OUT: LEAVE IT -/
set_option maxRecDepth 100000 in
theorem lifted (os : Os) (started : os.Started) (H : Type) (enc : TypeId × Value → H) :
    ReturnsInHanded {} Try.checked os 7 .any (Rows.fnExactEccFixSpec.pre6 enc Try.prog Try.f7 Rows.fnExactEccFixRow.domain false) (Rows.fnExactEccFixSpec.post enc Try.prog Try.f7 false true false false) := by
  refine returnsInHanded_of_change (C := Try.checked) own started (by kernel_rfl) Try.func7
    (ChangeSpec.witness6 (enc := enc) (C := Try.checked) false ⟨#[], #[.string ByteArray.empty, .int .i64 0], []⟩ 8 (by kernel_rfl) (by kernel_rfl) (by kernel_rfl) (by kernel_rfl)) ?_
  intro W base args ds gs before hval0 hW hcnd _
  have hval : ∀ (j : Nat) t v, Try.f7.params[j]? = some t → args[j]? = some v → Value.okWide Try.prog W .any base t v := hval0
  have hW' := hW
  obtain ⟨p, q, hA0, hV, rfl, hfz, hnd⟩ := hW
  have hA : DataW.TrodAll enc Try.prog W 0 (fun _ => true) true Try.f7.params.toList args.toList ds p := hA0
  rw [Try.params7] at hA hval
  obtain ⟨v0, vs0, d0, ds0, p0, q0, hargs, rfl, rfl, h0, r0⟩ := trodAll_cons hA
  obtain ⟨v1, vs1, d1, ds1, p1, q1, rfl, rfl, rfl, h1, r1⟩ := trodAll_cons r0
  obtain ⟨rfl, rfl, rfl⟩ := trodAll_nil r1
  obtain rfl : args = #[v0, v1] := by cases args; simp_all
  obtain ⟨rfl, rfl⟩ := trodVars_none hV
  obtain ⟨a0, rfl, rfl, rfl, w0⟩ := open_string Try.underlying9 (hval 0 9 v0 rfl rfl) h0
  obtain ⟨a1, rfl, rfl, rfl, w1⟩ := open_int Try.underlying2 (hval 1 2 v1 rfl rfl) h1
  clear hA0 hval0
  refine (walk a0 a1 w0 w1 W).mono fun e W' ⟨he, hg⟩ => ?_
  subst he
  exact ⟨_, rfl, _, _, _, [], _, [], hW', trodAll_mk1 (shut_bool Try.underlying4 _), (trodAll_cons_mk (shut_string Try.underlying9 w0) (trodAll_cons_mk (shut_int Try.underlying2 w1) trodAll_mk0)), rfl, hg.frame _, fun h => by cases h⟩

theorem over : Rows.fnExactEccFixRow.holds Try.pinned (OpenSpec.ofChange Rows.fnExactEccFixSpec) :=
  OpenClaim.holds_of_wide 7 Try.f7 rfl rfl rfl rfl rfl rfl rfl ⟨rfl, rfl, rfl, rfl, rfl⟩ rfl rfl rfl rfl rfl (by kernel_rfl) Try.func7 (by kernel_rfl)
    (of_decide_eq_true (by kernel_rfl)) (by unfold Func.isWrapper; first | (rw [if_pos (by decide +kernel)]; kernel_rfl) | (rw [if_neg (by decide +kernel)]; exact ⟨rfl, rfl⟩))
    (fun os started H enc _ => lifted os started H enc)

/-- ████ THE STATEMENT ████ -/
theorem proved : Rows.FnExactEccFixSaid :=
  over
#print axioms proved
end Go.Proofs.Ytgkkkldajangeaa.fnExactEccFix
