/-
  For all numbers blocks and retain, the law FnExactFormat returns true: the program's Format answers as the document's, every field, and its answer owns its memory. The library's variable errors.errorType and the program's errInvalid and errNoHistory read as their text lays them (a tied card).
-/
import Derived.Test.YtohmkjgmhippoaaGreatDoorRows
import Derived.Test.YtohmkjgmhippoaaGreatDoorTie
import Derived.Test.YtohmkjgmhippoaaGreatDoorCards
import Derived.Test.YtohmkjgmhippoaaGreatDoorMgGc
import Derived.Test.YtohmkjgmhippoaaGreatDoorMgDb
import Derived.Test.YtohmkjgmhippoaaGreatDoorMgChip
import Derived.Test.YtohmkjgmhippoaaGreatDoorMgDf
import Derived.WalkKit
import Derived.ProofKit
import Derived.OpenShut
import Derived.ShutString
import Derived.ChangeOld
import Derived.ChangeSame
import Derived.ChangeVars
import Derived.JoinedOf
import Derived.RowKitTokens
import Derived.LaidLaws
import Derived.LaidHandle
import Derived.Stop.Joined
import Derived.SevenTiedAt
import Derived.Below
namespace Go.Proofs.YtohmkjgmhippoaaGreatDoor.fnExactFormat
open Go.ChangeShapes Go.WideShapes Go.ChangeAt Go.RowKit
open Go.ChangeMaps (open_string shut_string)
set_option linter.unusedVariables false

theorem own : ownKnob Tryz.prog.godebug = none := by kernel_rfl
theorem laidOut : laidOutB Tryz.prog = true := by kernel_rfl

noncomputable abbrev laidWorld (os : Os) : World := bothWorld os ⟨#[97, 110, 32, 97, 114, 103, 117, 109, 101, 110, 116, 32, 105, 115, 32, 105, 110, 118, 97, 108, 105, 100]⟩ ⟨#[116, 104, 101, 114, 101, 32, 105, 115, 32, 110, 111, 32, 98, 108, 111, 99, 107, 32, 102, 111, 114, 32, 116, 104, 101, 32, 110, 101, 120, 116, 32, 112, 97, 103, 101]⟩ ⟨#[116, 104, 101, 32, 114, 101, 99, 111, 114, 100, 115, 32, 97, 114, 101, 32, 110, 111, 32, 118, 97, 108, 105, 100, 32, 104, 105, 115, 116, 111, 114, 121]⟩
theorem laidWorld_met (os : Os) (args : Array Value) : laidMetH Tryz.prog Rows.fnExactFormatRow.laid ((laidWorld os).forCall (fun _ _ => 0) ⟨#[], args, []⟩).memory :=
  laidMetH_of_parts (laidMet_of_run' 8 (by kernel_rfl) (by kernel_rfl)) (by kernel_rfl)

set_option maxHeartbeats 4000000 in
set_option maxRecDepth 100000 in
theorem walk (a0 : Int) (a1 : Int) (w : World) (w0 : (Lit.int .i64 a0).wf = true) (w1 : (Lit.int .i64 a1).wf = true) (hG : ErrType w) (a0' a2' : Addr) (hS : Two w a0' a2') :
    Calls Tryz.prog 4 #[.int .i64 a0, .int .i64 a1] w fun e w' => e = .returned (.bool true) ∧ Below w.heap.size w w' := by
  have HGe := Lib.hid hG; have HSe := Lib.hid hS
  clear w0 w1 hG hS
  have HSPEC : Hid (∀ W, Calls Tryz.prog 20 #[.int .i64 a0, .int .i64 a1] W (RetDv W (fmtAns a0 a1))) := fun W => spec_dvFormat a0 a1 W
  have HIMPL : Hid (∀ W, Below w.heap.size w W → Calls Tryz.prog 21 #[.int .i64 a0, .int .i64 a1] W (RetDv W (fmtAns a0 a1))) := fun W hb => impl_dvFormat a0 a1 a0' a2' W (HGe.out.below hb) (HSe.out.below hb)
  have HFEW := Lib.hid (fmtAns_few a0 a1)
  generalize fmtAns a0 a1 = R at HSPEC HIMPL HFEW
  obtain ⟨n, hn⟩ : ∃ n, n = R.nd.length := ⟨_, rfl⟩
  have HN := Lib.hid hn
  have hn12 : n ≤ 12 := by rw [hn]; exact HFEW.out.1
  have HPX : Hid (∀ b ∈ R.nd, b.pages.length ≤ 2147483648) := fun b hb => by have := HFEW.out.2 b hb; omega
  have HKX : Hid (kAt R.nd 1 n ≤ 16777216) := by show kAt R.nd 1 n ≤ 16777216; rw [hn]; exact few_kAt HFEW.out
  clear hn
  go_enter Tryz.func4, Tryz.ntmps4
  go_wp2_with fail
  refine (HSPEC.out w).mono ?_
  rintro e u1 ⟨Aw, cw, rfl, ho1, hb1⟩
  rw [← HN.out] at ho1 ⊢
  have HB1 := Lib.hid hb1; have HO1 := Lib.hid ho1
  clear hb1 ho1
  go_wp2_with fail
  have k2 := isBlk_new u1 38 [.slice Aw n cw, .int .i64 R.now, .int .i64 R.ret, .int .i64 R.code]
  have hb2 := box_below u1 (.cells #[.slice Aw n cw, .int .i64 R.now, .int .i64 R.ret, .int .i64 R.code] 38)
  have hs2 := size_alloc u1 (.cells #[.slice Aw n cw, .int .i64 R.now, .int .i64 R.ret, .int .i64 R.code] 38)
  change Calls _ _ _ (u1.alloc (.cells #[.slice Aw n cw, .int .i64 R.now, .int .i64 R.ret, .int .i64 R.code] 38)) _
  generalize u1.alloc (.cells #[.slice Aw n cw, .int .i64 R.now, .int .i64 R.ret, .int .i64 R.code] 38) = u2 at k2 hb2 hs2 ⊢
  refine (HIMPL.out u2 (bel_step HB1.out hb2)).mono ?_
  rintro e u3 ⟨Ag, cg, rfl, ho3, hb3⟩
  rw [← HN.out] at ho3 ⊢
  have HB13 : Hid (Below u1.heap.size u1 u3) := bel_step hb2 hb3
  have HB3 := Lib.hid (bel_step HB1.out HB13.out)
  have HKW3 := Lib.hid (k2.below hb3 k2.lt)
  have HOW3 := Lib.hid (HO1.out.below HB13.out (Nat.le_refl _))
  have HOG3 := Lib.hid ho3
  have h12 : u1.heap.size < u2.heap.size := by omega
  have h23 := hb3.size
  obtain ⟨e0, e1, e2, e3, -, -, -, -⟩ := blk4 HKW3.out
  have h13 : u1.heap.size < u3.heap.size := by omega
  clear k2 hb2 hs2 hb3 ho3
  go_wp2_with fail
  have k4 := isBlk_new u3 38 [.slice Ag n cg, .int .i64 R.now, .int .i64 R.ret, .int .i64 R.code]
  have hb4 := box_below u3 (.cells #[.slice Ag n cg, .int .i64 R.now, .int .i64 R.ret, .int .i64 R.code] 38)
  have hs4 := size_alloc u3 (.cells #[.slice Ag n cg, .int .i64 R.now, .int .i64 R.ret, .int .i64 R.code] 38)
  change Calls _ _ _ (u3.alloc (.cells #[.slice Ag n cg, .int .i64 R.now, .int .i64 R.ret, .int .i64 R.code] 38)) _
  generalize u3.alloc (.cells #[.slice Ag n cg, .int .i64 R.now, .int .i64 R.ret, .int .i64 R.code] 38) = u4 at k4 hb4 hs4 ⊢
  have h34 : u3.heap.size < u4.heap.size := by omega
  have HB4 := Lib.hid (bel_step HB3.out hb4)
  have HKW4 := Lib.hid (HKW3.out.below hb4 HKW3.out.lt)
  have HKG4 := Lib.hid k4
  have HOW4 := Lib.hid (HOW3.out.below hb4 (by omega))
  have HOG4 := Lib.hid (HOG3.out.below hb4 (Nat.le_refl _))
  clear k4 hb4 hs4 e0 e1 e2 e3
  refine (eqDriveOut_same Ag Aw n cg cw R.nd R.now R.ret R.code u4 (by omega) HPX.out (HOG4.out.rd (by omega)) (HOW4.out.rd (by omega))).mono ?_
  rintro e u5 ⟨rfl, hb5⟩
  have HB45 := Lib.hid hb5
  have h45 := hb5.size
  obtain ⟨f0, f1, f2, f3, -, -, -, -⟩ := blk4 (HKG4.out.below hb5 HKG4.out.lt)
  clear hb5
  go_wp2_with fail
  refine (markDriveOut_any Ag u2.heap.size u3.heap.size n cg 1 R.nd R.now R.ret R.code u5 (by omega) HKX.out (by omega) (HOG4.out.below HB45.out (by omega))).mono ?_
  rintro e u6 ⟨rfl, hmk, hb6⟩
  have hb46 : Btw u2.heap.size u3.heap.size u4 u6 := (Btw.of_below HB45.out).trans hb6
  have h46 := hb46.size
  have HB6 : Hid (Below w.heap.size w u6) := HB4.out.trans ((hb46.below (by omega)).mono (by have := HB1.out.size; omega))
  have HKW6 : Hid (IsBlk u6 u1.heap.size 38 [.slice Aw n cw, .int .i64 R.now, .int .i64 R.ret, .int .i64 R.code]) := (hb46.block _ HKW4.out.lt (by omega)).trans HKW4.out
  have HKG6 : Hid (IsBlk u6 u3.heap.size 38 [.slice Ag n cg, .int .i64 R.now, .int .i64 R.ret, .int .i64 R.code]) := (hb46.block _ HKG4.out.lt (by omega)).trans HKG4.out
  have HOW6 := Lib.hid (HOW4.out.btw hb46 (by omega) (by omega))
  have HMK6 := Lib.hid hmk
  obtain ⟨g0, g1, g2, g3, -, -, -, -⟩ := blk4 HKG6.out
  clear hb6 hb46 hmk f0 f1 f2 f3
  go_wp2_with fail
  refine (heldDriveOut_any Ag u2.heap.size u3.heap.size n cg 1 R.nd R.now R.ret R.code u6 (by omega) HKX.out (by omega) HMK6.out).mono ?_
  rintro e u7 ⟨rfl, hb7⟩
  have HB67 := Lib.hid hb7
  clear hb7 g0 g1 g2 g3
  go_wp2_with fail
  refine (HIMPL.out u7 (bel_step HB6.out HB67.out)).mono ?_
  rintro e u8 ⟨Ah, ch, rfl, ho8, hb8⟩
  rw [← HN.out] at ho8 ⊢
  have HB68 : Hid (Below u6.heap.size u6 u8) := bel_step HB67.out hb8
  have HO8 := Lib.hid ho8
  have h68 := HB68.out.size
  obtain ⟨e0, e1, e2, e3, -, -, -, -⟩ := blk4 (HKW6.out.below HB68.out HKW6.out.lt)
  have h18 : u1.heap.size < u8.heap.size := by omega
  clear hb8 ho8
  go_wp2_with fail
  have hb9 := box_below u8 (.cells #[.slice Ah n ch, .int .i64 R.now, .int .i64 R.ret, .int .i64 R.code] 38)
  change Calls _ _ _ (u8.alloc (.cells #[.slice Ah n ch, .int .i64 R.now, .int .i64 R.ret, .int .i64 R.code] 38)) _
  generalize u8.alloc (.cells #[.slice Ah n ch, .int .i64 R.now, .int .i64 R.ret, .int .i64 R.code] 38) = u9 at hb9 ⊢
  have HB69 : Hid (Below u6.heap.size u6 u9) := bel_step HB68.out hb9
  have h69 := HB69.out.size
  have h89 := hb9.size
  refine (eqDriveOut_same Ah Aw n ch cw R.nd R.now R.ret R.code u9 (by omega) HPX.out ((HO8.out.below hb9 (Nat.le_refl _)).rd h89) ((HOW6.out.below HB69.out (by omega)).rd (by omega))).mono ?_
  rintro e ua ⟨rfl, hba⟩
  have HB6a : Hid (Below u6.heap.size u6 ua) := bel_step HB69.out hba
  have h6a := HB6a.out.size
  obtain ⟨f0, f1, f2, f3, -, -, -, -⟩ := blk4 (HKG6.out.below HB6a.out HKG6.out.lt)
  clear hba hb9 e0 e1 e2 e3
  go_wp2_with fail
  refine (heldDriveOut_any Ag u2.heap.size u3.heap.size n cg 1 R.nd R.now R.ret R.code ua (by omega) HKX.out (by omega) (HMK6.out.below HB6a.out (by omega))).mono ?_
  rintro e ub ⟨rfl, hbb⟩
  have HBb := Lib.hid (bel_step HB6.out (bel_step HB6a.out hbb))
  clear hbb f0 f1 f2 f3
  go_wp2
  go_ret
  exact ⟨rfl, HBb.out⟩

set_option maxHeartbeats 1000000 in
set_option maxRecDepth 100000 in
theorem lifted (os : Os) (started : os.Started) (H : Type) (enc : TypeId × Value → H) :
    ReturnsInHanded {} Tryz.checked os 4 .any (fun w args => (Rows.fnExactFormatSpec.pre enc Tryz.prog Tryz.f4 [] false w args ∧ laidMetH Tryz.prog Rows.fnExactFormatRow.laid w) ∧ sizedMet enc Tryz.prog Tryz.f4 (OpenSpec.ofChange Rows.fnExactFormatSpec) false w args)
      (Rows.fnExactFormatSpec.post enc Tryz.prog Tryz.f4 false true false false) := by
  refine returnsInHanded_of_change_and (C := Tryz.checked) (X := fun w _ => laidMetH Tryz.prog Rows.fnExactFormatRow.laid w) (fun _ _ _ hh h => h.of_heap hh) own started (by kernel_rfl) Tryz.func4
    (ChangeSpec.witness_at (enc := enc) (C := Tryz.checked) (os := os) (X := fun w _ => laidMetH Tryz.prog Rows.fnExactFormatRow.laid w) false (laidWorld os) #[.int .i64 0, .int .i64 0] 8 rfl (by kernel_rfl) (by kernel_rfl) (by kernel_rfl) (by kernel_rfl) (by kernel_rfl) (laidWorld_met os _)) ?_
  intro W base args ds gs before hval0 hW _ _ hL _
  have hval : ∀ (j : Nat) t v, Tryz.f4.params[j]? = some t → args[j]? = some v → Value.okWide Tryz.prog W .any base t v := hval0
  have hW' := hW
  obtain ⟨p, q, hA0, hV0, rfl, hfz, hnd⟩ := hW
  have hA : DataW.TrodAll enc Tryz.prog W 0 (fun _ => true) true Tryz.f4.params.toList args.toList ds p := hA0
  have hV : DataW.TrodVars enc Tryz.prog W (fun _ => true) [nInv, nHist] gs q := hV0
  rw [Tryz.params4] at hA hval
  obtain ⟨v0, vs0, d0, ds0, p0, q0, hargs, rfl, rfl, h0, z0⟩ := trodAll_cons hA
  obtain ⟨v1, vs1, d1, ds1, p1, q1, rfl, rfl, rfl, h1, z1⟩ := trodAll_cons z0
  obtain ⟨rfl, rfl, rfl⟩ := trodAll_nil z1
  obtain rfl : args = #[v0, v1] := by cases args; simp_all
  have hL2 : laidMet Tryz.prog [(nInv, .iface "*errors.errorString" (.ptr (.agg [.lit (.string [97, 110, 32, 97, 114, 103, 117, 109, 101, 110, 116, 32, 105, 115, 32, 105, 110, 118, 97, 108, 105, 100])]))), (nHist, .iface "*errors.errorString" (.ptr (.agg [.lit (.string [116, 104, 101, 32, 114, 101, 99, 111, 114, 100, 115, 32, 97, 114, 101, 32, 110, 111, 32, 118, 97, 108, 105, 100, 32, 104, 105, 115, 116, 111, 114, 121])])))] W ∧ handlesMet Tryz.prog [("errors.errorType", Rows.laid_errors_errorType)] W := hL
  have hG := errType_of_handle rfl hL2.2
  obtain ⟨a0', a2', hS, g0, g2⟩ := two_of_laid hL2.1
  have vr : ∀ {X : World}, Below W.heap.size W X → ∀ sp : Nat → Bool, DataW.TrodVars enc Tryz.prog X sp [nInv, nHist] [tok enc (.iface 320 (.pointer (some a0'))), tok enc (.iface 320 (.pointer (some a2')))] [.cell 0 0, .cell 1 0] :=
    fun hb sp => vars_readIH enc (var_below g0 hb) trivial (var_below g2 hb) trivial sp
  obtain ⟨rfl, rfl⟩ := hV.unique (vr (Below.refl _ _) _)
  obtain ⟨a0, rfl, rfl, rfl, w0⟩ := open_int Tryz.underlying2 (hval 0 2 v0 rfl rfl) h0
  obtain ⟨a1, rfl, rfl, rfl, w1⟩ := open_int Tryz.underlying2 (hval 1 2 v1 rfl rfl) h1
  clear hA0 hV0 hval0
  refine (walk a0 a1 W w0 w1 hG a0' a2' hS).mono fun e W' ⟨he, bel⟩ => ?_
  subst he
  exact ⟨_, rfl, _, _, _, [], _, _, hW', trodAll_mk1 (shut_bool Tryz.underlying4 _), (trodAll_cons_mk (shut_int Tryz.underlying2 w0) (trodAll_cons_mk (shut_int Tryz.underlying2 w1) trodAll_mk0)), vr bel _, bel.frame _, fun h => by cases h⟩

set_option maxHeartbeats 16000000 in
theorem over : Rows.FnExactFormatSaid := by
  refine OpenClaim.holds_of_wide 4 Tryz.f4 rfl rfl rfl rfl rfl rfl rfl ⟨rfl, rfl, rfl, rfl, rfl⟩ rfl rfl rfl rfl rfl (by as_aux_lemma => kernel_rfl) Tryz.func4 ?closed
    (of_decide_eq_true (by as_aux_lemma => kernel_rfl)) (by unfold Func.isWrapper; rw [if_neg (of_decide_eq_false (by as_aux_lemma => kernel_rfl))]; exact ⟨rfl, rfl⟩)
    (fun os started H enc _ => lifted os started H enc)
  case closed =>
    unfold joinedFacts
    simp only [Bool.and_eq_true]
    repeat' apply And.intro
    all_goals (as_aux_lemma => kernel_rfl)

set_option maxHeartbeats 16000000 in
theorem proved : Rows.FnExactFormatCardSaid :=
  Claim7.holds_tied_plain_at .later [] [.handle, .sentinel, .sentinel] true (true, "c6ceed834f57a4e572c2faf0c085f61dd5a60e6e4efc41ea51c0a802c2f1f0f8") true
    over (fun _ h => by cases h) (by as_aux_lemma => kernel_rfl) (fun _ h => by cases h) fnExactFormat_row_tie rfl ⟨rfl, rfl⟩ (by as_aux_lemma => kernel_rfl) rfl
    (fun f fn hf hfn => by
      obtain rfl : f = 4 := Option.some.inj ((show Tryz.prog.funcNamed "loop.example/g00637/laws.FnExactFormat" = some 4 by kernel_rfl).symm.trans hf) |>.symm
      obtain rfl : fn = Tryz.f4 := (Option.some.inj (Tryz.func4.symm.trans hfn)).symm
      exact ⟨by kernel_rfl, fun j t ht => by
        rw [Tryz.params4] at ht
        have h3 : t = 2 := by
          rcases j with _ | _ | j
          all_goals first | (simp at ht; subst ht; simp) | (simp at ht)
        subst h3
        exact (show Tryz.prog.wantsStandIn 2 = false by kernel_rfl)⟩)
    (by as_aux_lemma => kernel_rfl)
#print axioms proved
end Go.Proofs.YtohmkjgmhippoaaGreatDoor.fnExactFormat
