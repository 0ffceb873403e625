/-
  For every number of blocks, the law FnExactNandNew returns true: the program's NandNew answers as the document's, every field, and its answer owns its memory. No condition.
-/
import Derived.Test.YtmimaomgpcmldaaRows
import Derived.Test.YtmimaomgpcmldaaNdEq
import Derived.Test.YtmimaomgpcmldaaNdHeld
import Derived.Test.YtmimaomgpcmldaaNdAns
import Derived.Test.YtmimaomgpcmldaaNdNew
import Derived.WalkKit
import Derived.ProofKit
import Derived.OpenShut
import Derived.ShutString
import Derived.ChangeOld
import Derived.Below
namespace Go.Proofs.Ytmimaomgpcmldaa.fnExactNandNew
open Go.ChangeShapes Go.WideShapes Go.ChangeAt Go.RowKit
open Go.ChangeMaps (open_string shut_string)
set_option linter.unusedVariables false

theorem own : ownKnob Try.prog.godebug = none := by kernel_rfl
theorem laidOut : laidOutB Try.prog = true := by kernel_rfl

set_option maxHeartbeats 4000000 in
set_option maxRecDepth 100000 in
theorem walk (a0 : Int) (w : World) (w0 : (Lit.int .i64 a0).wf = true) :
    Calls Try.prog 5 #[.int .i64 a0] w fun e w' => e = .returned (.bool true) ∧ Below w.heap.size w w' := by
  clear w0
  have HSPEC : Hid (∀ W, Calls Try.prog 34 #[.int .i64 a0] W (RetNd W (newNd a0))) := fun W => spec_nandNew a0 W
  have HIMPL : Hid (∀ W, Calls Try.prog 33 #[.int .i64 a0] W (RetNd W (newNd a0))) := fun W => impl_nandNew a0 W
  have HFEW := Lib.hid (newNd_few a0)
  generalize newNd a0 = X at HSPEC HIMPL HFEW
  obtain ⟨n, hn⟩ : ∃ n, n = X.length := ⟨_, rfl⟩
  have HN := Lib.hid hn
  have hn12 : n ≤ 12 := by rw [hn]; exact HFEW.out.1
  have HPX : Hid (∀ b ∈ X, b.pages.length ≤ 2147483648) := fun b hb => by have := HFEW.out.2 b hb; omega
  have HKX : Hid (kAt X 1 n ≤ 16777216) := by show kAt X 1 n ≤ 16777216; rw [hn]; exact few_kAt HFEW.out
  clear hn
  go_enter Try.func5, Try.ntmps5
  go_wp2_with fail
  refine (HSPEC.out w).mono ?_
  rintro e u1 ⟨Aw, cw, rfl, ho1, hb1⟩
  rw [← HN.out] at ho1 ⊢
  have HB1 := Lib.hid hb1; have HO1 := Lib.hid ho1
  clear hb1 ho1
  go_wp2_with fail
  have k2 := isBlk_new u1 25 [.slice Aw n cw]
  have hb2 := box_below u1 (.cells #[.slice Aw n cw] 25)
  have hs2 := size_alloc u1 (.cells #[.slice Aw n cw] 25)
  change Calls _ _ _ (u1.alloc (.cells #[.slice Aw n cw] 25)) _
  generalize u1.alloc (.cells #[.slice Aw n cw] 25) = u2 at k2 hb2 hs2 ⊢
  refine (HIMPL.out u2).mono ?_
  rintro e u3 ⟨Ag, cg, rfl, ho3, hb3⟩
  rw [← HN.out] at ho3 ⊢
  have HB13 : Hid (Below u1.heap.size u1 u3) := bel_step hb2 hb3
  have HB3 := Lib.hid (bel_step HB1.out HB13.out)
  have HKW3 := Lib.hid (k2.below hb3 k2.lt)
  have HOW3 := Lib.hid (HO1.out.below HB13.out (Nat.le_refl _))
  have HOG3 := Lib.hid ho3
  have h12 : u1.heap.size < u2.heap.size := by omega
  have h23 := hb3.size
  have e0 : u3.cell? ⟨u1.heap.size, 0, none⟩ = some (.slice Aw n cw) := HKW3.out.cell rfl
  have h13 : u1.heap.size < u3.heap.size := by omega
  clear k2 hb2 hs2 hb3 ho3
  go_wp2_with fail
  have k4 := isBlk_new u3 25 [.slice Ag n cg]
  have hb4 := box_below u3 (.cells #[.slice Ag n cg] 25)
  have hs4 := size_alloc u3 (.cells #[.slice Ag n cg] 25)
  change Calls _ _ _ (u3.alloc (.cells #[.slice Ag n cg] 25)) _
  generalize u3.alloc (.cells #[.slice Ag n cg] 25) = u4 at k4 hb4 hs4 ⊢
  have h34 : u3.heap.size < u4.heap.size := by omega
  have HB4 := Lib.hid (bel_step HB3.out hb4)
  have HKW4 := Lib.hid (HKW3.out.below hb4 HKW3.out.lt)
  have HKG4 := Lib.hid k4
  have HOW4 := Lib.hid (HOW3.out.below hb4 (by omega))
  have HOG4 := Lib.hid (HOG3.out.below hb4 (Nat.le_refl _))
  clear k4 hb4 hs4 e0
  refine (eqNand_same Ag Aw n cg cw X u4 (by omega) HPX.out (HOG4.out.rd (by omega)) (HOW4.out.rd (by omega))).mono ?_
  rintro e u5 ⟨rfl, hb5⟩
  have HB45 := Lib.hid hb5
  have h45 := hb5.size
  have f0 : u5.cell? ⟨u3.heap.size, 0, none⟩ = some (.slice Ag n cg) := (HKG4.out.below hb5 HKG4.out.lt).cell rfl
  clear hb5
  go_wp2_with fail
  refine (markNand_any Ag u2.heap.size u3.heap.size n cg 1 X u5 (by omega) HKX.out (by omega) (HOG4.out.below HB45.out (by omega))).mono ?_
  rintro e u6 ⟨rfl, hmk, hb6⟩
  have hb46 : Btw u2.heap.size u3.heap.size u4 u6 := (Btw.of_below HB45.out).trans hb6
  have h46 := hb46.size
  have HB6 : Hid (Below w.heap.size w u6) := HB4.out.trans ((hb46.below (by omega)).mono (by have := HB1.out.size; omega))
  have HKW6 : Hid (IsBlk u6 u1.heap.size 25 [.slice Aw n cw]) := (hb46.block _ HKW4.out.lt (by omega)).trans HKW4.out
  have HKG6 : Hid (IsBlk u6 u3.heap.size 25 [.slice Ag n cg]) := (hb46.block _ HKG4.out.lt (by omega)).trans HKG4.out
  have HOW6 := Lib.hid (HOW4.out.btw hb46 (by omega) (by omega))
  have HMK6 := Lib.hid hmk
  have g0 : u6.cell? ⟨u3.heap.size, 0, none⟩ = some (.slice Ag n cg) := HKG6.out.cell rfl
  clear hb6 hb46 hmk f0
  go_wp2_with fail
  refine (heldNand_any Ag u2.heap.size u3.heap.size n cg 1 X u6 (by omega) HKX.out (by omega) HMK6.out).mono ?_
  rintro e u7 ⟨rfl, hb7⟩
  have HB67 := Lib.hid hb7
  clear hb7 g0
  go_wp2_with fail
  refine (HIMPL.out u7).mono ?_
  rintro e u8 ⟨Ah, ch, rfl, ho8, hb8⟩
  rw [← HN.out] at ho8 ⊢
  have HB68 : Hid (Below u6.heap.size u6 u8) := bel_step HB67.out hb8
  have HO8 := Lib.hid ho8
  have h68 := HB68.out.size
  have e0 : u8.cell? ⟨u1.heap.size, 0, none⟩ = some (.slice Aw n cw) := (HKW6.out.below HB68.out HKW6.out.lt).cell rfl
  have h18 : u1.heap.size < u8.heap.size := by omega
  clear hb8 ho8
  go_wp2_with fail
  have hb9 := box_below u8 (.cells #[.slice Ah n ch] 25)
  change Calls _ _ _ (u8.alloc (.cells #[.slice Ah n ch] 25)) _
  generalize u8.alloc (.cells #[.slice Ah n ch] 25) = u9 at hb9 ⊢
  have HB69 : Hid (Below u6.heap.size u6 u9) := bel_step HB68.out hb9
  have h69 := HB69.out.size
  have h89 := hb9.size
  refine (eqNand_same Ah Aw n ch cw X u9 (by omega) HPX.out ((HO8.out.below hb9 (Nat.le_refl _)).rd h89) ((HOW6.out.below HB69.out (by omega)).rd (by omega))).mono ?_
  rintro e ua ⟨rfl, hba⟩
  have HB6a : Hid (Below u6.heap.size u6 ua) := bel_step HB69.out hba
  have h6a := HB6a.out.size
  have f0 : ua.cell? ⟨u3.heap.size, 0, none⟩ = some (.slice Ag n cg) := (HKG6.out.below HB6a.out HKG6.out.lt).cell rfl
  clear hba hb9 e0
  go_wp2_with fail
  refine (heldNand_any Ag u2.heap.size u3.heap.size n cg 1 X ua (by omega) HKX.out (by omega) (HMK6.out.below HB6a.out (by omega))).mono ?_
  rintro e ub ⟨rfl, hbb⟩
  have HBb := Lib.hid (bel_step HB6.out (bel_step HB6a.out hbb))
  clear hbb f0
  go_wp2
  go_ret
  exact ⟨rfl, HBb.out⟩

set_option maxRecDepth 100000 in
theorem lifted (os : Os) (started : os.Started) (H : Type) (enc : TypeId × Value → H) :
    ReturnsInHanded {} Try.checked os 5 .any (Rows.fnExactNandNewSpec.pre6 enc Try.prog Try.f5 Rows.fnExactNandNewRow.domain false) (Rows.fnExactNandNewSpec.post enc Try.prog Try.f5 false true false false) := by
  refine returnsInHanded_of_change (C := Try.checked) own started (by kernel_rfl) Try.func5
    (ChangeSpec.witness6 (enc := enc) (C := Try.checked) false ⟨#[], #[.int .i64 0], []⟩ 8 (by kernel_rfl) (by kernel_rfl) (by kernel_rfl) (by kernel_rfl)) ?_
  intro W base args ds gs before hval0 hW hcnd _
  have hval : ∀ (j : Nat) t v, Try.f5.params[j]? = some t → args[j]? = some v → Value.okWide Try.prog W .any base t v := hval0
  have hW' := hW
  obtain ⟨p, q, hA0, hV, rfl, hfz, hnd⟩ := hW
  have hA : DataW.TrodAll enc Try.prog W 0 (fun _ => true) true Try.f5.params.toList args.toList ds p := hA0
  rw [Try.params5] at hA hval
  obtain ⟨v0, vs0, d0, ds0, p0, q0, hargs, rfl, rfl, h0, r0⟩ := trodAll_cons hA
  obtain ⟨rfl, rfl, rfl⟩ := trodAll_nil r0
  obtain rfl : args = #[v0] := by cases args; simp_all
  obtain ⟨rfl, rfl⟩ := trodVars_none hV
  obtain ⟨a0, rfl, rfl, rfl, w0⟩ := open_int Try.underlying2 (hval 0 2 v0 rfl rfl) h0
  clear hA0 hval0
  refine (walk a0 W w0).mono fun e W' ⟨he, bel⟩ => ?_
  subst he
  exact ⟨_, rfl, _, _, _, [], _, [], hW', trodAll_mk1 (shut_bool Try.underlying4 _), (trodAll_cons_mk (shut_int Try.underlying2 w0) trodAll_mk0), rfl, bel.frame _, fun h => by cases h⟩

theorem over : Rows.fnExactNandNewRow.holds Try.pinned (OpenSpec.ofChange Rows.fnExactNandNewSpec) :=
  OpenClaim.holds_of_wide 5 Try.f5 rfl rfl rfl rfl rfl rfl rfl ⟨rfl, rfl, rfl, rfl, rfl⟩ rfl rfl rfl rfl rfl (by kernel_rfl) Try.func5 (by kernel_rfl)
    (of_decide_eq_true (by kernel_rfl)) (by unfold Func.isWrapper; first | (rw [if_pos (by decide +kernel)]; kernel_rfl) | (rw [if_neg (by decide +kernel)]; exact ⟨rfl, rfl⟩))
    (fun os started H enc _ => lifted os started H enc)

theorem proved : Rows.FnExactNandNewSaid := over
#print axioms proved
end Go.Proofs.Ytmimaomgpcmldaa.fnExactNandNew
