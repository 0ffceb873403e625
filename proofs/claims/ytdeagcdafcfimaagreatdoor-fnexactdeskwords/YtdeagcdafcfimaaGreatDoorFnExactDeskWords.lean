/-
  The law FnExactDeskWords returns true: the program's DeskWords answers as the document's, its answer owns its memory, and a later answer is the same. The variables that the row lists read as their text lays them (a tied card).
-/
import Derived.Test.YtdeagcdafcfimaaGreatDoorRows
import Derived.Test.YtdeagcdafcfimaaGreatDoorTie
import Derived.Test.YtdeagcdafcfimaaGreatDoorCards
import Derived.Test.YtdeagcdafcfimaaGreatDoorLgLaid2
import Derived.Test.YtdeagcdafcfimaaGreatDoorDkWords
import Derived.WalkKit
import Derived.ProofKit
import Derived.OpenShut
import Derived.ShutString
import Derived.ChangeOld
import Derived.ChangeSame
import Derived.ChangeVars
import Derived.JoinedOf
import Derived.RowKitTokens
import Derived.LaidLaws
import Derived.LaidHandle
import Derived.LaidSub
import Derived.Stop.Joined
import Derived.SevenTiedAt
import Derived.Below
namespace Go.Proofs.YtdeagcdafcfimaaGreatDoor.fnExactDeskWords
open Go.ChangeShapes Go.WideShapes Go.ChangeAt Go.RowKit
open Go.ChangeMaps (open_string shut_string)
set_option linter.unusedVariables false

theorem own : ownKnob Tryz.prog.godebug = none := by kernel_rfl
theorem laidOut : laidOutB Tryz.prog = true := by kernel_rfl

def cell1 : DataW Unit → Value | .lit (.int k n) => .int k n | _ => .bool false
def cells1 : DataW Unit → List Value | .agg l => l.map cell1 | _ => []
def cells2 : DataW Unit → List Value | .agg l => l.flatMap cells1 | _ => []
def layTab (g : Nat) (vs : List Value) (w0 : World) : World :=
  { w0 with heap := w0.heap.modify g fun
      | .cells _ t frozen => .cells vs.toArray t frozen
      | o => o }
noncomputable abbrev laidWorld (os : Os) : World := layTab 7 (cells1 Rows.laid_math_bits_deBruijn32tab) (layTab 8 (cells1 Rows.laid_math_bits_deBruijn64tab) (layTab 4 (cells1 Rows.laid_internal_strconv_uint64pow10) (bothWorld os ⟨#[97, 110, 32, 97, 114, 103, 117, 109, 101, 110, 116, 32, 105, 115, 32, 105, 110, 118, 97, 108, 105, 100]⟩ ⟨#[116, 104, 101, 114, 101, 32, 105, 115, 32, 110, 111, 32, 98, 108, 111, 99, 107, 32, 102, 111, 114, 32, 116, 104, 101, 32, 110, 101, 120, 116, 32, 112, 97, 103, 101]⟩ ⟨#[116, 104, 101, 32, 114, 101, 99, 111, 114, 100, 115, 32, 97, 114, 101, 32, 110, 111, 32, 118, 97, 108, 105, 100, 32, 104, 105, 115, 116, 111, 114, 121]⟩)))
theorem laidWorld_met (os : Os) (args : Array Value) : laidMetH Tryz.prog Rows.fnExactDeskWordsRow.laid ((laidWorld os).forCall (fun _ _ => 0) ⟨#[], args, []⟩).memory :=
  laidMetH_of_parts (laidMet_of_run' 8 (by kernel_rfl) (by kernel_rfl)) (by kernel_rfl)

theorem walk (w : World) (hG : ErrType w) (a0' a1' a2' : Addr) (hS : Sents w a0' a1' a2') :
    Calls Tryz.prog 5 #[] w fun e w' => e = .returned (.bool true) ∧ Below w.heap.size w w' := by
  go_enter Tryz.func5, Tryz.ntmps5
  go_wp2_with fail
  refine (spec_deskWords _).mono ?_
  rintro e w1 ⟨gs, cs, rfl, hgs, hrs, hb1⟩
  have HB1 := Lib.hid hb1; have HS1 := Lib.hid hrs
  have hls := hrs.lt
  clear hb1 hrs
  go_wp2_with fail
  refine (impl_deskWords _).mono ?_
  rintro e w2 ⟨gg, cg, rfl, hgg, hrg, hb2⟩
  have HB2 := Lib.hid (HB1.out.trans (hb2.mono HB1.out.size))
  have HS2 := Lib.hid (HS1.out.below hb2 hls)
  have HG2 := Lib.hid hrg
  have hlg := hrg.lt
  have h12 := hb2.size
  clear hb2 hrg
  go_wp2_with fail
  refine (eqStringS_row gg gs 12 cg cs dkSorted w2 (by omega) HG2.out HS2.out).mono ?_
  rintro e w3 ⟨rfl, hb3⟩
  have HB3 := Lib.hid (HB2.out.trans (hb3.mono HB2.out.size))
  have HS3 := Lib.hid (HS2.out.below hb3 (by omega))
  have HG3 := Lib.hid (HG2.out.below hb3 hlg)
  have h23 := hb3.size
  clear hb3
  go_wp2_with fail
  refine (markStringS_row gg 12 cg 1 _ w3 (by omega) (by omega) HG3.out).mono ?_
  rintro e w4 ⟨rfl, hrm, hbt⟩
  have HB4 : Hid (Below w.heap.size w w4) := HB3.out.trans ((hbt.below (by omega)).mono (by have := HB1.out.size; omega))
  have HS4 : Hid (Row w4 gs 12 (ssF dkSorted)) := HS3.out.same (hbt.block gs (by omega) (by omega))
  have HM4 := Lib.hid hrm
  have h34 := hbt.size
  clear hrm hbt
  go_wp2_with fail
  refine (heldStringS_row gg 12 cg 1 w4 (by omega) (by omega) HM4.out).mono ?_
  rintro e w5 ⟨rfl, hb5⟩
  have HB5 := Lib.hid (HB4.out.trans (hb5.mono HB4.out.size))
  have HS5 := Lib.hid (HS4.out.below hb5 (by omega))
  have HM5 := Lib.hid (HM4.out.below hb5 (by omega))
  have h45 := hb5.size
  clear hb5
  go_wp2_with fail
  refine (impl_deskWords _).mono ?_
  rintro e w6 ⟨gh, ch, rfl, hgh, hrh, hb6⟩
  have HB6 := Lib.hid (HB5.out.trans (hb6.mono HB5.out.size))
  have HS6 := Lib.hid (HS5.out.below hb6 (by omega))
  have HM6 := Lib.hid (HM5.out.below hb6 (by omega))
  have HH6 := Lib.hid hrh
  have h56 := hb6.size
  clear hb6 hrh
  go_wp2_with fail
  refine (eqStringS_row gh gs 12 ch cs dkSorted w6 (by omega) HH6.out HS6.out).mono ?_
  rintro e w7 ⟨rfl, hb7⟩
  have HB7 := Lib.hid (HB6.out.trans (hb7.mono HB6.out.size))
  have HM7 := Lib.hid (HM6.out.below hb7 (by omega))
  clear hb7
  go_wp2_with fail
  refine (heldStringS_row gg 12 cg 1 w7 (by omega) (by omega) HM7.out).mono ?_
  rintro e w8 ⟨rfl, hb8⟩
  have HB8 := Lib.hid (HB7.out.trans (hb8.mono HB7.out.size))
  clear hb8
  go_wp2
  go_ret
  exact ⟨rfl, HB8.out⟩

set_option maxHeartbeats 1000000 in
set_option maxRecDepth 100000 in
theorem lifted (os : Os) (started : os.Started) (H : Type) (enc : TypeId × Value → H) :
    ReturnsInHanded {} Tryz.checked os 5 .any (fun w args => (Rows.fnExactDeskWordsSpec.pre enc Tryz.prog Tryz.f5 [] false w args ∧ laidMetH Tryz.prog Rows.fnExactDeskWordsRow.laid w) ∧ sizedMet enc Tryz.prog Tryz.f5 (OpenSpec.ofChange Rows.fnExactDeskWordsSpec) false w args)
      (Rows.fnExactDeskWordsSpec.post enc Tryz.prog Tryz.f5 false true false false) := by
  refine returnsInHanded_of_change_and (C := Tryz.checked) (X := fun w _ => laidMetH Tryz.prog Rows.fnExactDeskWordsRow.laid w) (fun _ _ _ hh h => h.of_heap hh) own started (by kernel_rfl) Tryz.func5
    (ChangeSpec.witness_at (enc := enc) (C := Tryz.checked) (os := os) (X := fun w _ => laidMetH Tryz.prog Rows.fnExactDeskWordsRow.laid w) false (laidWorld os) #[] 8 rfl (by kernel_rfl) (by kernel_rfl) (by kernel_rfl) (by kernel_rfl) (by kernel_rfl) (laidWorld_met os _)) ?_
  intro W base args ds gs before hval0 hW _ _ hL _
  have hval : ∀ (j : Nat) t v, Tryz.f5.params[j]? = some t → args[j]? = some v → Value.okWide Tryz.prog W .any base t v := hval0
  have hW' := hW
  obtain ⟨p, q, hA0, hV0, rfl, hfz, hnd⟩ := hW
  have hA : DataW.TrodAll enc Tryz.prog W 0 (fun _ => true) true Tryz.f5.params.toList args.toList ds p := hA0
  have hV : DataW.TrodVars enc Tryz.prog W (fun _ => true) [nInv, nHist, nRoom] gs q := hV0
  rw [Tryz.params5] at hA hval
  obtain ⟨hargs, rfl, rfl⟩ := trodAll_nil hA
  obtain rfl : args = #[] := by cases args; simp_all
  have hL2 : laidMet Tryz.prog [(nInv, .iface "*errors.errorString" (.ptr (.agg [.lit (.string [97, 110, 32, 97, 114, 103, 117, 109, 101, 110, 116, 32, 105, 115, 32, 105, 110, 118, 97, 108, 105, 100])]))), (nRoom, .iface "*errors.errorString" (.ptr (.agg [.lit (.string [116, 104, 101, 114, 101, 32, 105, 115, 32, 110, 111, 32, 98, 108, 111, 99, 107, 32, 102, 111, 114, 32, 116, 104, 101, 32, 110, 101, 120, 116, 32, 112, 97, 103, 101])]))), (nHist, .iface "*errors.errorString" (.ptr (.agg [.lit (.string [116, 104, 101, 32, 114, 101, 99, 111, 114, 100, 115, 32, 97, 114, 101, 32, 110, 111, 32, 118, 97, 108, 105, 100, 32, 104, 105, 115, 116, 111, 114, 121])])))] W ∧ handlesMet Tryz.prog [("errors.errorType", Rows.laid_errors_errorType)] W := hL.filter (fun x => !(["math/bits.deBruijn32tab", "math/bits.deBruijn64tab", "internal/strconv.uint64pow10"] : List String).contains x.1)
  have hG := errType_of_handle rfl hL2.2
  obtain ⟨a0', a1', a2', hS, g0, g1, g2⟩ := sents_of_laid hL2.1
  have vr : ∀ {X : World}, Below W.heap.size W X → ∀ sp : Nat → Bool, DataW.TrodVars enc Tryz.prog X sp [nInv, nHist, nRoom] [tok enc (.iface 419 (.pointer (some a0'))), tok enc (.iface 419 (.pointer (some a2'))), tok enc (.iface 419 (.pointer (some a1')))] [.cell 0 0, .cell 1 0, .cell 3 0] :=
    fun hb sp => vars_readIHR enc (var_below g0 hb) trivial (var_below g1 hb) trivial (var_below g2 hb) trivial sp
  obtain ⟨rfl, rfl⟩ := hV.unique (vr (Below.refl _ _) _)
  clear hA0 hV0 hval0
  refine (walk  W  hG a0' a1' a2' hS).mono fun e W' ⟨he, bel⟩ => ?_
  subst he
  exact ⟨_, rfl, _, _, _, [], _, _, hW', trodAll_mk1 (shut_bool Tryz.underlying4 _), trodAll_mk0, vr bel _, bel.frame _, fun h => by cases h⟩

set_option maxHeartbeats 16000000 in
theorem over : Rows.FnExactDeskWordsSaid := by
  refine OpenClaim.holds_of_wide 5 Tryz.f5 rfl rfl rfl rfl rfl rfl rfl ⟨rfl, rfl, rfl, rfl, rfl⟩ rfl rfl rfl rfl rfl (by as_aux_lemma => kernel_rfl) Tryz.func5 ?closed
    (of_decide_eq_true (by as_aux_lemma => kernel_rfl)) (by unfold Func.isWrapper; rw [if_neg (of_decide_eq_false (by as_aux_lemma => kernel_rfl))]; exact ⟨rfl, rfl⟩)
    (fun os started H enc _ => lifted os started H enc)
  case closed =>
    unfold joinedFacts
    simp only [Bool.and_eq_true]
    repeat' apply And.intro
    all_goals (as_aux_lemma => kernel_rfl)

set_option maxHeartbeats 16000000 in
theorem proved : Rows.FnExactDeskWordsCardSaid :=
  Claim7.holds_tied_plain_at .later [] [.data, .data, .data, .handle, .sentinel, .sentinel, .sentinel] true (true, "94082fea930ee7c40f2813b2e2fd30bfb8993218c3a32a8a952e414791870b71") true
    over (fun _ h => by cases h) (by as_aux_lemma => kernel_rfl) (fun _ h => by cases h) fnExactDeskWords_row_tie rfl ⟨rfl, rfl⟩ (by as_aux_lemma => kernel_rfl) rfl
    (fun f fn hf hfn => by
      obtain rfl : f = 5 := Option.some.inj ((show Tryz.prog.funcNamed "loop.example/g00637/laws.FnExactDeskWords" = some 5 by kernel_rfl).symm.trans hf) |>.symm
      obtain rfl : fn = Tryz.f5 := (Option.some.inj (Tryz.func5.symm.trans hfn)).symm
      exact ⟨by kernel_rfl, fun j t ht => by
        rw [Tryz.params5] at ht
        simp at ht⟩)
    (by as_aux_lemma => kernel_rfl)
#print axioms proved
end Go.Proofs.YtdeagcdafcfimaaGreatDoor.fnExactDeskWords
