/-
  For every number and every history h, the law FnExactCkptBytes returns true: the program's CkptBytes answers as the document's, it writes into no argument, and h reads afterwards as before. No condition.
-/
import Derived.Test.YtmpadpaeejefnaaRows
import Derived.Test.YtmpadpaeejefnaaHsLaw
import Derived.Test.YtmpadpaeejefnaaCkBytesI
import Derived.Test.YtmpadpaeejefnaaCkBytesS
import Derived.Deep.RegionHeld3
import Derived.WalkKit
import Derived.ProofKit
import Derived.OpenShut
import Derived.ShutString
import Derived.ChangeOld
import Derived.Below
namespace Go.Proofs.Ytmpadpaeejefnaa.fnExactCkptBytes
open Go.ChangeShapes Go.WideShapes Go.ChangeAt Go.RowKit
open Go.ChangeMaps (open_string shut_string)
set_option linter.unusedVariables false

theorem own : ownKnob Try.prog.godebug = none := by kernel_rfl
theorem laidOut : laidOutB Try.prog = true := by kernel_rfl

set_option maxHeartbeats 2000000 in
theorem walk (a0 : Int) (A1 : Option Addr) (n1 c1 : Nat) (X1 : List Bt.Rc) (w : World) (w0 : (Lit.int .i64 a0).wf = true) (w1 : RdRc w w.heap.size A1 n1 X1) (x1 : WideR X1) :
    Calls Try.prog 3 #[.int .i64 a0, .agg #[.slice A1 n1 c1]] w fun e w' => e = .returned (.bool true) ∧ Below w.heap.size w w' := by
  have HA := Lib.hid w1; have HX := Lib.hid x1; clear w1 x1
  go_enter Try.func3, Try.ntmps3
  go_wp2_with fail
  have hb0 : Below w.heap.size w (w.alloc (.cells #[.slice A1 n1 c1] 24)) := (Below.refl _ _).alloc (Nat.le_refl _) _
  have k0 := isBlk_new w 24 [.slice A1 n1 c1]
  change Calls _ _ _ (w.alloc (.cells #[.slice A1 n1 c1] 24)) _
  generalize w.alloc (.cells #[.slice A1 n1 c1] 24) = W at hb0 k0 ⊢
  refine (szHist_any A1 n1 c1 X1 1048576 W (by omega) (by omega) HX.out (HA.out.next hb0)).mono ?_
  rintro e w1 ⟨rfl, hb1⟩
  have HB1 := Lib.hid (hb0.trans (hb1.mono hb0.size))
  have HK1 := Lib.hid (k0.below hb1 k0.lt)
  have hx1 : w1.cell? ⟨w.heap.size, 0, none⟩ = some (.slice A1 n1 c1) := HK1.out.cell rfl
  clear hb1 hb0 k0
  by_cases hs : ((szRcs X1 : Nat) : Int) ≤ 1048576
  · have hz := szR_ok hs
    have hnn : 0 ≤ 1048576 - ((szRcs X1 : Nat) : Int) := by omega
    have HSM := Lib.hid (smallR_of_sz (X := X1) (by omega))
    have hnl : n1 ≤ 1048576 := by have := HSM.out.1; have := HA.out.1; omega
    go_wp2_with fail
    refine (toHist_any A1 n1 c1 X1 w1 (by omega) (HA.out.next HB1.out)).mono ?_
    rintro e w2 ⟨rfl, ho2, hb2⟩
    have HB2 := Lib.hid (HB1.out.trans (hb2.mono HB1.out.size))
    have HK2 := Lib.hid (HK1.out.below hb2 HK1.out.lt)
    have HO2 := Lib.hid ho2
    clear hb2 ho2 hx1
    go_wp2_with fail
    refine (spec_ckptBytes a0 _ n1 n1 X1 w2 HSM.out (HO2.out.rd (Nat.le_refl _))).mono ?_
    rintro e w3 ⟨rfl, hb3⟩
    have HB3 := Lib.hid (HB2.out.trans (hb3.mono HB2.out.size))
    have HK3 := Lib.hid (HK2.out.below hb3 HK2.out.lt)
    have hx3 : w3.cell? ⟨w.heap.size, 0, none⟩ = some (.slice A1 n1 c1) := HK3.out.cell rfl
    clear hb3
    go_wp2_with fail
    refine (toHist_any A1 n1 c1 X1 w3 (by omega) (HA.out.next HB3.out)).mono ?_
    rintro e w4 ⟨rfl, ho4, hb4⟩
    have HB4 := Lib.hid (HB3.out.trans (hb4.mono HB3.out.size))
    have HK4 := Lib.hid (HK3.out.below hb4 HK3.out.lt)
    have HO4 := Lib.hid ho4
    clear hb4 ho4 hx3
    go_wp2_with fail
    have hb5 : Below w4.heap.size w4 (w4.alloc (.cells #[.slice (some ⟨w3.heap.size + 3, 0, none⟩) n1 n1] 29)) := (Below.refl _ _).alloc (Nat.le_refl _) _
    have k5 := isBlk_new w4 29 [.slice (some ⟨w3.heap.size + 3, 0, none⟩) n1 n1]
    change Calls _ _ _ (w4.alloc (.cells #[.slice (some ⟨w3.heap.size + 3, 0, none⟩) n1 n1] 29)) _
    generalize w4.alloc (.cells #[.slice (some ⟨w3.heap.size + 3, 0, none⟩) n1 n1] 29) = w5 at hb5 k5 ⊢
    refine (impl_ckptBytes a0 _ n1 n1 X1 w5 HSM.out ((HO4.out.below hb5 (Nat.le_refl _)).rd hb5.size)).mono ?_
    rintro e w6 ⟨rfl, hb6⟩
    have HB6 := Lib.hid (HB4.out.trans ((hb5.trans (hb6.mono hb5.size)).mono HB4.out.size))
    have k6 := (HK4.out.below hb5 HK4.out.lt).below hb6 (Nat.lt_of_lt_of_le HK4.out.lt hb5.size)
    have k6' := k5.below hb6 k5.lt
    have HO6 := Lib.hid ((HO4.out.below hb5 (Nat.le_refl _)).below hb6 hb5.size)
    have hz6 : w4.heap.size ≤ w6.heap.size := Nat.le_trans hb5.size hb6.size
    have hx6 : w6.cell? ⟨w.heap.size, 0, none⟩ = some (.slice A1 n1 c1) := k6.cell rfl
    have hy6 : w6.cell? ⟨w4.heap.size, 0, none⟩ = some (.slice (some ⟨w3.heap.size + 3, 0, none⟩) n1 n1) := k6'.cell rfl
    clear hb5 k5 hb6 k6 k6'
    generalize ckBytes a0 X1 = R
    have hq : ((bstr R).toList == (bstr R).toList) = true := by simp
    go_wp2
    have hd6 : Below w6.heap.size w6 w6.drew := (Below.refl _ _).drew
    have HD6 := Lib.hid hd6; clear hd6
    have HR6 : Hid (RdRc w6.drew w6.drew.heap.size A1 n1 X1) := (HA.out.next HB6.out).next HD6.out
    have hg6 : w.heap.size < w6.heap.size := by have := World.block_lt_of_cell? _ _ hx6; simpa using this
    have hg6' : w4.heap.size < w6.heap.size := by have := World.block_lt_of_cell? _ _ hy6; simpa using this
    go_region_held3 (fun w' => w'.cell? ⟨w.heap.size, 0, none⟩ = some (.slice A1 n1 c1) ∧ w'.cell? ⟨w4.heap.size, 0, none⟩ = some (.slice (some ⟨w3.heap.size + 3, 0, none⟩) n1 n1))
      (first | exact ⟨hx6, hy6⟩ | exact hs7 | exact hs8 | go_keep)
      (first
        | (go_at_call 7
           refine (toHist_any A1 n1 c1 X1 w6.drew (by omega) HR6.out).mono ?_
           rintro e w7 ⟨rfl, ho7, hb7⟩
           have hs7 : w7.cell? ⟨w.heap.size, 0, none⟩ = some (.slice A1 n1 c1) ∧ w7.cell? ⟨w4.heap.size, 0, none⟩ = some (.slice (some ⟨w3.heap.size + 3, 0, none⟩) n1 n1) :=
             ⟨(hb7.cell (p := ⟨w.heap.size, 0, none⟩) hg6).trans hx6, (hb7.cell (p := ⟨w4.heap.size, 0, none⟩) hg6').trans hy6⟩
           have HB7 := Lib.hid (HD6.out.trans hb7)
           have HO7 := Lib.hid ho7
           clear ho7 hb7)
        | (go_at_call 9
           refine (eqHist_same _ _ n1 n1 n1 X1 _ (by omega) ((HO6.out.below HB7.out hz6).rd (Nat.le_trans hz6 HB7.out.size)) (HO7.out.rd (Nat.le_refl _))).mono ?_
           rintro e w8 ⟨rfl, hb8⟩
           have HB8 := Lib.hid (HB7.out.trans (hb8.mono HB7.out.size))
           have hs8 : w8.cell? ⟨w.heap.size, 0, none⟩ = some (.slice A1 n1 c1) ∧ w8.cell? ⟨w4.heap.size, 0, none⟩ = some (.slice (some ⟨w3.heap.size + 3, 0, none⟩) n1 n1) :=
             ⟨(HB8.out.cell (p := ⟨w.heap.size, 0, none⟩) hg6).trans hx6, (HB8.out.cell (p := ⟨w4.heap.size, 0, none⟩) hg6').trans hy6⟩
           clear hb8))
    all_goals
      go_wp2
      go_ret
      exact ⟨rfl, HB6.out.trans (HB8.out.mono HB6.out.size)⟩
  · have hz := szR_no (t := szRcs X1) (left := 1048576) (by omega)
    go_wp2
    go_ret
    exact ⟨rfl, HB1.out⟩

set_option maxHeartbeats 1000000 in
set_option maxRecDepth 100000 in
theorem lifted (os : Os) (started : os.Started) (H : Type) (enc : TypeId × Value → H) :
    ReturnsInHanded {} Try.checked os 3 .any (Rows.fnExactCkptBytesSpec.pre6 enc Try.prog Try.f3 Rows.fnExactCkptBytesRow.domain false) (Rows.fnExactCkptBytesSpec.post enc Try.prog Try.f3 false true false false) := by
  refine returnsInHanded_of_change (C := Try.checked) own started (by kernel_rfl) Try.func3
    (ChangeSpec.witness6 (enc := enc) (C := Try.checked) false ⟨#[], #[.int .i64 0, .agg #[.slice none 0 0]], []⟩ 8 (by kernel_rfl) (by kernel_rfl) (by kernel_rfl) (by kernel_rfl)) ?_
  intro W base args ds gs before hval0 hW hcnd _
  have hval : ∀ (j : Nat) t v, Try.f3.params[j]? = some t → args[j]? = some v → Value.okWide Try.prog W .any base t v := hval0
  have hW' := hW
  obtain ⟨p, q, hA0, hV, rfl, hfz, hnd⟩ := hW
  have hA : DataW.TrodAll enc Try.prog W 0 (fun _ => true) true Try.f3.params.toList args.toList ds p := hA0
  rw [Try.params3] at hA hval
  obtain ⟨v0, vs0, d0, ds0, p0, q0, hargs, rfl, rfl, h0, z0⟩ := trodAll_cons hA
  obtain ⟨v1, vs1, d1, ds1, p1, q1, rfl, rfl, rfl, h1, z1⟩ := trodAll_cons z0
  obtain ⟨rfl, rfl, rfl⟩ := trodAll_nil z1
  obtain rfl : args = #[v0, v1] := by cases args; simp_all
  obtain ⟨rfl, rfl⟩ := trodVars_none hV
  obtain ⟨a0, rfl, rfl, rfl, w0⟩ := open_int Try.underlying2 (hval 0 2 v0 rfl rfl) h0
  have k1 := h1
  have lt1 : ∀ x ∈ p1, x.block < W.heap.size := by obtain ⟨m, hm⟩ := k1; exact DataW.trod_lt m _ _ _ hm
  obtain ⟨A1, n1, c1, X1, rfl, w1, x1⟩ := open_lawsHist (hval 1 24 v1 rfl rfl) h1
  clear hA0 hval0
  refine (walk a0 A1 n1 c1 X1 W w0 w1 x1).mono fun e W' ⟨he, bel⟩ => ?_
  subst he
  exact ⟨_, rfl, _, _, _, [], _, [], hW', trodAll_mk1 (shut_bool Try.underlying4 _), (trodAll_cons_mk (shut_int Try.underlying2 w0) (trodAll_cons_mk (Below.trod laidOut (by kernel_rfl) (of_decide_eq_true (by kernel_rfl)) k1 bel lt1) trodAll_mk0)), rfl, bel.frame _, fun h => by cases h⟩

theorem over : Rows.fnExactCkptBytesRow.holds Try.pinned (OpenSpec.ofChange Rows.fnExactCkptBytesSpec) :=
  OpenClaim.holds_of_wide 3 Try.f3 rfl rfl rfl rfl rfl rfl rfl ⟨rfl, rfl, rfl, rfl, rfl⟩ rfl rfl rfl rfl rfl (by kernel_rfl) Try.func3 (by kernel_rfl)
    (of_decide_eq_true (by kernel_rfl)) (by unfold Func.isWrapper; first | (rw [if_pos (by decide +kernel)]; kernel_rfl) | (rw [if_neg (by decide +kernel)]; exact ⟨rfl, rfl⟩))
    (fun os started H enc _ => lifted os started H enc)

theorem proved : Rows.FnExactCkptBytesSaid := over
#print axioms proved
end Go.Proofs.Ytmpadpaeejefnaa.fnExactCkptBytes
