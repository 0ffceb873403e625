/-
  For every chip n, the law FnExactVictim returns true: the program's Victim answers as the document's, it writes into no argument, and n reads afterwards as before. The library's variable errors.errorType and the program's errInvalid and errNoHistory read as their text lays them (a tied card).
-/
import Derived.Test.YtfpibbhcecdbgaaGreatDoorRows
import Derived.Test.YtfpibbhcecdbgaaGreatDoorTie
import Derived.Test.YtfpibbhcecdbgaaGreatDoorCards
import Derived.Test.YtfpibbhcecdbgaaGreatDoorMgGc
import Derived.Test.YtfpibbhcecdbgaaGreatDoorMgNd
import Derived.Test.YtfpibbhcecdbgaaGreatDoorNdUse
import Derived.Deep.RegionHeld3
import Derived.WalkKit
import Derived.ProofKit
import Derived.OpenShut
import Derived.ShutString
import Derived.ChangeOld
import Derived.ChangeSame
import Derived.ChangeVars
import Derived.JoinedOf
import Derived.RowKitTokens
import Derived.LaidLaws
import Derived.LaidHandle
import Derived.Stop.Joined
import Derived.SevenTiedAt
import Derived.Below
namespace Go.Proofs.YtfpibbhcecdbgaaGreatDoor.fnExactVictim
open Go.ChangeShapes Go.WideShapes Go.ChangeAt Go.RowKit
open Go.ChangeMaps (open_string shut_string)
set_option linter.unusedVariables false

theorem own : ownKnob Tryz.prog.godebug = none := by kernel_rfl
theorem laidOut : laidOutB Tryz.prog = true := by kernel_rfl

noncomputable abbrev laidWorld (os : Os) : World := bothWorld os ⟨#[97, 110, 32, 97, 114, 103, 117, 109, 101, 110, 116, 32, 105, 115, 32, 105, 110, 118, 97, 108, 105, 100]⟩ ⟨#[116, 104, 101, 114, 101, 32, 105, 115, 32, 110, 111, 32, 98, 108, 111, 99, 107, 32, 102, 111, 114, 32, 116, 104, 101, 32, 110, 101, 120, 116, 32, 112, 97, 103, 101]⟩ ⟨#[116, 104, 101, 32, 114, 101, 99, 111, 114, 100, 115, 32, 97, 114, 101, 32, 110, 111, 32, 118, 97, 108, 105, 100, 32, 104, 105, 115, 116, 111, 114, 121]⟩
theorem laidWorld_met (os : Os) (args : Array Value) : laidMetH Tryz.prog Rows.fnExactVictimRow.laid ((laidWorld os).forCall (fun _ _ => 0) ⟨#[], args, []⟩).memory :=
  laidMetH_of_parts (laidMet_of_run' 8 (by kernel_rfl) (by kernel_rfl)) (by kernel_rfl)

set_option maxHeartbeats 2000000 in
set_option maxRecDepth 100000 in
theorem walk (A0 : Option Addr) (n0 c0 : Nat) (X0 : List Bk) (w : World) (w0 : RdBk w w.heap.size A0 n0 X0) (x0 : Wide X0) (hG : ErrType w) (a0' a2' : Addr) (hS : Two w a0' a2') :
    Calls Tryz.prog 6 #[.agg #[.slice A0 n0 c0]] w fun e w' => e = .returned (.bool true) ∧ Below w.heap.size w w' := by
  have HA := Lib.hid w0; have HX := Lib.hid x0; have HGe := Lib.hid hG; have HSe := Lib.hid hS; clear w0 x0 hG hS
  go_enter Tryz.func6, Tryz.ntmps6
  go_wp2_with fail
  have hb0 : Below w.heap.size w (w.alloc (.cells #[.slice A0 n0 c0] 24)) := (Below.refl _ _).alloc (Nat.le_refl _) _
  have k0 := isBlk_new w 24 [.slice A0 n0 c0]
  change Calls _ _ _ (w.alloc (.cells #[.slice A0 n0 c0] 24)) _
  generalize w.alloc (.cells #[.slice A0 n0 c0] 24) = W at hb0 k0 ⊢
  refine (szNand_any A0 n0 c0 X0 1048576 W (by omega) (by omega) HX.out ((HA.out.below hb0).mono hb0.size)).mono ?_
  rintro e w1 ⟨rfl, hb1⟩
  have HB1 := Lib.hid (hb0.trans (hb1.mono hb0.size))
  have HK1 := Lib.hid (k0.below hb1 k0.lt)
  have hx1 : w1.cell? ⟨w.heap.size, 0, none⟩ = some (.slice A0 n0 c0) := HK1.out.cell rfl
  clear hb1 hb0 k0
  by_cases hs : ((szBks X0 : Nat) : Int) ≤ 1048576
  · have hz := szR_ok hs
    have hnn : 0 ≤ 1048576 - ((szBks X0 : Nat) : Int) := by omega
    have HSM := Lib.hid (small_of_sz (X := X0) (by omega))
    have hnl : n0 ≤ 1048576 := by have := HSM.out.1; have := HA.out.1; omega
    have HPL : Hid (∀ b ∈ X0, b.pages.length ≤ 2147483648) := fun b hb => by have := (HSM.out.2 b hb).1; omega
    go_wp2_with fail
    refine (toNand_any A0 n0 c0 X0 w1 (by omega) HPL.out ((HA.out.below HB1.out).mono HB1.out.size)).mono ?_
    rintro e w2 ⟨rfl, ho2, hb2⟩
    have HB2 := Lib.hid (HB1.out.trans (hb2.mono HB1.out.size))
    have HK2 := Lib.hid (HK1.out.below hb2 HK1.out.lt)
    have HO2 := Lib.hid ho2
    clear hb2 ho2 hx1
    go_wp2_with fail
    refine (spec_victim _ n0 n0 X0 w2 HSM.out (HO2.out.rd (Nat.le_refl _))).mono ?_
    rintro e w3 ⟨rfl, hb3⟩
    have HB3 := Lib.hid (HB2.out.trans (hb3.mono HB2.out.size))
    have HK3 := Lib.hid (HK2.out.below hb3 HK2.out.lt)
    have hx3 : w3.cell? ⟨w.heap.size, 0, none⟩ = some (.slice A0 n0 c0) := HK3.out.cell rfl
    clear hb3
    go_wp2_with fail
    refine (toNand_any A0 n0 c0 X0 w3 (by omega) HPL.out ((HA.out.below HB3.out).mono HB3.out.size)).mono ?_
    rintro e w4 ⟨rfl, ho4, hb4⟩
    have HB4 := Lib.hid (HB3.out.trans (hb4.mono HB3.out.size))
    have HK4 := Lib.hid (HK3.out.below hb4 HK3.out.lt)
    have HO4 := Lib.hid ho4
    clear hb4 ho4 hx3
    go_wp2_with fail
    have hb5 : Below w4.heap.size w4 (w4.alloc (.cells #[.slice (some ⟨w3.heap.size + 3, 0, none⟩) n0 n0] 28)) := (Below.refl _ _).alloc (Nat.le_refl _) _
    have k5 := isBlk_new w4 28 [.slice (some ⟨w3.heap.size + 3, 0, none⟩) n0 n0]
    change Calls _ _ _ (w4.alloc (.cells #[.slice (some ⟨w3.heap.size + 3, 0, none⟩) n0 n0] 28)) _
    generalize w4.alloc (.cells #[.slice (some ⟨w3.heap.size + 3, 0, none⟩) n0 n0] 28) = w5 at hb5 k5 ⊢
    refine (impl_victim _ n0 n0 X0 a0' a2' w5 (HGe.out.below (HB4.out.trans (hb5.mono HB4.out.size))) (HSe.out.below (HB4.out.trans (hb5.mono HB4.out.size))) HSM.out ((HO4.out.below hb5 (Nat.le_refl _)).rd hb5.size)).mono ?_
    rintro e w6 ⟨rfl, hb6⟩
    have HB6 := Lib.hid (HB4.out.trans ((hb5.trans (hb6.mono hb5.size)).mono HB4.out.size))
    have k6 := (HK4.out.below hb5 HK4.out.lt).below hb6 (Nat.lt_of_lt_of_le HK4.out.lt hb5.size)
    have k6' := k5.below hb6 k5.lt
    have HO6 := Lib.hid ((HO4.out.below hb5 (Nat.le_refl _)).below hb6 hb5.size)
    have hz6 : w4.heap.size ≤ w6.heap.size := Nat.le_trans hb5.size hb6.size
    have hx6 : w6.cell? ⟨w.heap.size, 0, none⟩ = some (.slice A0 n0 c0) := k6.cell rfl
    have hy6 : w6.cell? ⟨w4.heap.size, 0, none⟩ = some (.slice (some ⟨w3.heap.size + 3, 0, none⟩) n0 n0) := k6'.cell rfl
    clear hb5 k5 hb6 k6 k6'
    go_wp2
    have hd6 : Below w6.heap.size w6 w6.drew := (Below.refl _ _).drew
    have HD6 := Lib.hid hd6; clear hd6
    have HR6 : Hid (RdBk w6.drew w6.drew.heap.size A0 n0 X0) := ((HA.out.below HB6.out).mono HB6.out.size).below HD6.out
    have hg6 : w.heap.size < w6.heap.size := by have := World.block_lt_of_cell? _ _ hx6; simpa using this
    have hg6' : w4.heap.size < w6.heap.size := by have := World.block_lt_of_cell? _ _ hy6; simpa using this
    go_region_held3 (fun w' => w'.cell? ⟨w.heap.size, 0, none⟩ = some (.slice A0 n0 c0) ∧ w'.cell? ⟨w4.heap.size, 0, none⟩ = some (.slice (some ⟨w3.heap.size + 3, 0, none⟩) n0 n0))
      (first | exact ⟨hx6, hy6⟩ | exact hs7 | exact hs8 | go_keep)
      (first
        | (go_at_call 12
           refine (toNand_any A0 n0 c0 X0 w6.drew (by omega) HPL.out HR6.out).mono ?_
           rintro e w7 ⟨rfl, ho7, hb7⟩
           have hs7 : w7.cell? ⟨w.heap.size, 0, none⟩ = some (.slice A0 n0 c0) ∧ w7.cell? ⟨w4.heap.size, 0, none⟩ = some (.slice (some ⟨w3.heap.size + 3, 0, none⟩) n0 n0) :=
             ⟨(hb7.cell (p := ⟨w.heap.size, 0, none⟩) hg6).trans hx6, (hb7.cell (p := ⟨w4.heap.size, 0, none⟩) hg6').trans hy6⟩
           have HB7 := Lib.hid (HD6.out.trans hb7)
           have HO7 := Lib.hid ho7
           clear ho7 hb7)
        | (go_at_call 15
           refine (eqNand_same _ _ n0 n0 n0 X0 _ (by omega) HPL.out ((HO6.out.below HB7.out hz6).rd (Nat.le_trans hz6 HB7.out.size)) (HO7.out.rd (Nat.le_refl _))).mono ?_
           rintro e w8 ⟨rfl, hb8⟩
           have HB8 := Lib.hid (HB7.out.trans (hb8.mono HB7.out.size))
           have hs8 : w8.cell? ⟨w.heap.size, 0, none⟩ = some (.slice A0 n0 c0) ∧ w8.cell? ⟨w4.heap.size, 0, none⟩ = some (.slice (some ⟨w3.heap.size + 3, 0, none⟩) n0 n0) :=
             ⟨(HB8.out.cell (p := ⟨w.heap.size, 0, none⟩) hg6).trans hx6, (HB8.out.cell (p := ⟨w4.heap.size, 0, none⟩) hg6').trans hy6⟩
           clear hb8))
    all_goals
      go_wp2
      go_ret
      exact ⟨rfl, HB6.out.trans (HB8.out.mono HB6.out.size)⟩
  · have hz := szR_no (t := szBks X0) (left := 1048576) (by omega)
    go_wp2
    go_ret
    exact ⟨rfl, HB1.out⟩

set_option maxHeartbeats 1000000 in
set_option maxRecDepth 100000 in
theorem lifted (os : Os) (started : os.Started) (H : Type) (enc : TypeId × Value → H) :
    ReturnsInHanded {} Tryz.checked os 6 .any (fun w args => (Rows.fnExactVictimSpec.pre enc Tryz.prog Tryz.f6 [] false w args ∧ laidMetH Tryz.prog Rows.fnExactVictimRow.laid w) ∧ sizedMet enc Tryz.prog Tryz.f6 (OpenSpec.ofChange Rows.fnExactVictimSpec) false w args)
      (Rows.fnExactVictimSpec.post enc Tryz.prog Tryz.f6 false true false false) := by
  refine returnsInHanded_of_change_and (C := Tryz.checked) (X := fun w _ => laidMetH Tryz.prog Rows.fnExactVictimRow.laid w) (fun _ _ _ hh h => h.of_heap hh) own started (by kernel_rfl) Tryz.func6
    (ChangeSpec.witness_at (enc := enc) (C := Tryz.checked) (os := os) (X := fun w _ => laidMetH Tryz.prog Rows.fnExactVictimRow.laid w) false (laidWorld os) #[.agg #[.slice none 0 0]] 8 rfl (by kernel_rfl) (by kernel_rfl) (by kernel_rfl) (by kernel_rfl) (by kernel_rfl) (laidWorld_met os _)) ?_
  intro W base args ds gs before hval0 hW _ _ hL _
  have hval : ∀ (j : Nat) t v, Tryz.f6.params[j]? = some t → args[j]? = some v → Value.okWide Tryz.prog W .any base t v := hval0
  have hW' := hW
  obtain ⟨p, q, hA0, hV0, rfl, hfz, hnd⟩ := hW
  have hA : DataW.TrodAll enc Tryz.prog W 0 (fun _ => true) true Tryz.f6.params.toList args.toList ds p := hA0
  have hV : DataW.TrodVars enc Tryz.prog W (fun _ => true) [nInv, nHist] gs q := hV0
  rw [Tryz.params6] at hA hval
  obtain ⟨v0, vs0, d0, ds0, p0, q0, hargs, rfl, rfl, h0, z0⟩ := trodAll_cons hA
  obtain ⟨rfl, rfl, rfl⟩ := trodAll_nil z0
  obtain rfl : args = #[v0] := by cases args; simp_all
  have hL2 : laidMet Tryz.prog [(nInv, .iface "*errors.errorString" (.ptr (.agg [.lit (.string [97, 110, 32, 97, 114, 103, 117, 109, 101, 110, 116, 32, 105, 115, 32, 105, 110, 118, 97, 108, 105, 100])]))), (nHist, .iface "*errors.errorString" (.ptr (.agg [.lit (.string [116, 104, 101, 32, 114, 101, 99, 111, 114, 100, 115, 32, 97, 114, 101, 32, 110, 111, 32, 118, 97, 108, 105, 100, 32, 104, 105, 115, 116, 111, 114, 121])])))] W ∧ handlesMet Tryz.prog [("errors.errorType", Rows.laid_errors_errorType)] W := hL
  have hG := errType_of_handle rfl hL2.2
  obtain ⟨a0', a2', hS, g0, g2⟩ := two_of_laid hL2.1
  have vr : ∀ {X : World}, Below W.heap.size W X → ∀ sp : Nat → Bool, DataW.TrodVars enc Tryz.prog X sp [nInv, nHist] [tok enc (.iface 350 (.pointer (some a0'))), tok enc (.iface 350 (.pointer (some a2')))] [.cell 0 0, .cell 1 0] :=
    fun hb sp => vars_readIH enc (var_below g0 hb) trivial (var_below g2 hb) trivial sp
  obtain ⟨rfl, rfl⟩ := hV.unique (vr (Below.refl _ _) _)
  have k0 := h0
  have lt0 : ∀ x ∈ p0, x.block < W.heap.size := by obtain ⟨m, hm⟩ := k0; exact DataW.trod_lt m _ _ _ hm
  obtain ⟨A0, n0, c0, X0, rfl, w0, x0⟩ := open_lawsNand (hval 0 24 v0 rfl rfl) h0
  clear hA0 hV0 hval0
  refine (walk A0 n0 c0 X0 W w0 x0 hG a0' a2' hS).mono fun e W' ⟨he, bel⟩ => ?_
  subst he
  exact ⟨_, rfl, _, _, _, [], _, _, hW', trodAll_mk1 (shut_bool Tryz.underlying4 _), (trodAll_cons_mk (Below.trod laidOut (by kernel_rfl) (of_decide_eq_true (by kernel_rfl)) k0 bel lt0) trodAll_mk0), vr bel _, bel.frame _, fun h => by cases h⟩

set_option maxHeartbeats 16000000 in
theorem over : Rows.FnExactVictimSaid := by
  refine OpenClaim.holds_of_wide 6 Tryz.f6 rfl rfl rfl rfl rfl rfl rfl ⟨rfl, rfl, rfl, rfl, rfl⟩ rfl rfl rfl rfl rfl (by as_aux_lemma => kernel_rfl) Tryz.func6 ?closed
    (of_decide_eq_true (by as_aux_lemma => kernel_rfl)) (by unfold Func.isWrapper; rw [if_neg (of_decide_eq_false (by as_aux_lemma => kernel_rfl))]; exact ⟨rfl, rfl⟩)
    (fun os started H enc _ => lifted os started H enc)
  case closed =>
    unfold joinedFacts
    simp only [Bool.and_eq_true]
    repeat' apply And.intro
    all_goals (as_aux_lemma => kernel_rfl)

set_option maxHeartbeats 16000000 in
theorem proved : Rows.FnExactVictimCardSaid :=
  Claim7.holds_tied_plain_at .later [] [.handle, .sentinel, .sentinel] true (true, "58358f82c1d6350424ce03cfc9d603867f8bd3613966a76f4f59e8e28c3b2992") true
    over (fun _ h => by cases h) (by as_aux_lemma => kernel_rfl) (fun _ h => by cases h) fnExactVictim_row_tie rfl ⟨rfl, rfl⟩ (by as_aux_lemma => kernel_rfl) rfl
    (fun f fn hf hfn => by
      obtain rfl : f = 6 := Option.some.inj ((show Tryz.prog.funcNamed "loop.example/g00637/laws.FnExactVictim" = some 6 by kernel_rfl).symm.trans hf) |>.symm
      obtain rfl : fn = Tryz.f6 := (Option.some.inj (Tryz.func6.symm.trans hfn)).symm
      exact ⟨by kernel_rfl, fun j t ht => by
        rw [Tryz.params6] at ht
        have h3 : t = 24 := by
          rcases j with _ | j
          all_goals first | (simp at ht; subst ht; simp) | (simp at ht)
        subst h3
        exact (show Tryz.prog.wantsStandIn 24 = false by kernel_rfl)⟩)
    (by as_aux_lemma => kernel_rfl)
#print axioms proved
end Go.Proofs.YtfpibbhcecdbgaaGreatDoor.fnExactVictim
