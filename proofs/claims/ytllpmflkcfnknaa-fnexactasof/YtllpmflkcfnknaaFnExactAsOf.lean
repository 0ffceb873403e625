/-
  For every history h, every sector and time, the law FnExactAsOf returns true: the program's AsOf answers as the document's, every field; it writes into no argument; and the arguments read afterwards as before. No condition.
-/
import Derived.Test.YtllpmflkcfnknaaRows
import Derived.Test.YtllpmflkcfnknaaHsLaw
import Derived.Test.YtllpmflkcfnknaaHsAsOf2
import Derived.Deep.RegionHeld3
import Derived.WalkKit
import Derived.ProofKit
import Derived.OpenShut
import Derived.ShutString
import Derived.ChangeOld
import Derived.Below
namespace Go.Proofs.Ytllpmflkcfnknaa.fnExactAsOf
open Go.ChangeShapes Go.WideShapes Go.ChangeAt Go.RowKit
open Go.ChangeMaps (open_string shut_string)
set_option linter.unusedVariables false

theorem own : ownKnob Try.prog.godebug = none := by kernel_rfl
theorem laidOut : laidOutB Try.prog = true := by kernel_rfl

set_option maxHeartbeats 4000000 in
set_option maxRecDepth 100000 in
theorem walk (A0 : Option Addr) (n0 c0 : Nat) (X0 : List Bt.Rc) (a1 : Int) (a2 : Int) (w : World) (w0 : RdRc w w.heap.size A0 n0 X0) (x0 : WideR X0) (w1 : (Lit.int .i64 a1).wf = true) (w2 : (Lit.int .i64 a2).wf = true) :
    Calls Try.prog 11 #[.agg #[.slice A0 n0 c0], .int .i64 a1, .int .i64 a2] w fun e w' => e = .returned (.bool true) ∧ Below w.heap.size w w' := by
  have HA := Lib.hid w0; have HX := Lib.hid x0; clear w0 x0
  go_enter Try.func11, Try.ntmps11
  go_wp2_with fail
  have hb0 : Below w.heap.size w (w.alloc (.cells #[.slice A0 n0 c0] 55)) := (Below.refl _ _).alloc (Nat.le_refl _) _
  have k0 := isBlk_new w 55 [.slice A0 n0 c0]
  change Calls _ _ _ (w.alloc (.cells #[.slice A0 n0 c0] 55)) _
  generalize w.alloc (.cells #[.slice A0 n0 c0] 55) = U0 at hb0 k0 ⊢
  refine (szHist_any A0 n0 c0 X0 1048576 U0 (by omega) (by omega) HX.out (HA.out.next hb0)).mono ?_
  rintro e u1 ⟨rfl, hb1⟩
  have HB1 := Lib.hid (hb0.trans (hb1.mono hb0.size))
  have HK1 := Lib.hid (k0.below hb1 k0.lt)
  have hx1 : u1.cell? ⟨w.heap.size, 0, none⟩ = some (.slice A0 n0 c0) := HK1.out.cell rfl
  clear hb1 hb0 k0
  by_cases hs : ((szRcs X0 : Nat) : Int) ≤ 1048576
  case neg =>
    have hz := szR_no (t := szRcs X0) (left := 1048576) (by omega)
    go_wp2
    go_ret
    exact ⟨rfl, HB1.out⟩
  have hz := szR_ok hs
  have hnn : 0 ≤ 1048576 - ((szRcs X0 : Nat) : Int) := by omega
  have HSM := Lib.hid (smallR_of_sz (X := X0) (by omega))
  have HL0 := Lib.hid HA.out.1
  have hnl : n0 ≤ 1048576 := by have := HSM.out.1; have := HL0.out; omega
  obtain ⟨R, hR⟩ : ∃ R, R = asOf X0 a1 a2 := ⟨_, rfl⟩
  have HSPEC : Hid (∀ (A : Option Addr) (c : Nat) (W : World), RdRc W W.heap.size A n0 X0 → Calls Try.prog 29 #[.agg #[.slice A n0 c], .int .i64 a1, .int .i64 a2] W fun e w' => e = .returned (voV R) ∧ Below W.heap.size W w') := fun A c W h => by rw [hR]; exact spec_asOf A n0 c X0 a1 a2 W HSM.out h
  have HIMPL : Hid (∀ (A : Option Addr) (c : Nat) (W : World), n0 ≤ c → RdRc W W.heap.size A n0 X0 → Calls Try.prog 28 #[.agg #[.slice A n0 c], .int .i64 a1, .int .i64 a2] W fun e w' => e = .returned (voV R) ∧ Below W.heap.size W w') := fun A c W hc h => by rw [hR]; exact impl_asOf A n0 c X0 a1 a2 W HSM.out hc h
  clear hR
  go_wp2_with fail
  refine (toHist_any A0 n0 c0 X0 u1 (by omega) (HA.out.next HB1.out)).mono ?_
  rintro e u2 ⟨rfl, ho2, hb2⟩
  have HB2 := Lib.hid (HB1.out.trans (hb2.mono HB1.out.size))
  have HK2 := Lib.hid (HK1.out.below hb2 HK1.out.lt)
  have HO2 := Lib.hid ho2
  clear hb2 ho2 hx1
  go_wp2_with fail
  refine (HSPEC.out _ n0 u2 (HO2.out.rd (Nat.le_refl _))).mono ?_
  rintro e u3 ⟨rfl, hb3⟩
  have HB3 := Lib.hid (HB2.out.trans (hb3.mono HB2.out.size))
  have HK3 := Lib.hid (HK2.out.below hb3 HK2.out.lt)
  have hx3 : u3.cell? ⟨w.heap.size, 0, none⟩ = some (.slice A0 n0 c0) := HK3.out.cell rfl
  have hl3 : w.heap.size < u3.heap.size := HK3.out.lt
  clear hb3 HO2 HSPEC
  go_wp2_with fail
  have k4 := isBlk_new u3 43 [.bool R.there, .string R.data, .int .i64 R.code]
  have hb4 : Below u3.heap.size u3 (u3.alloc (.cells #[.bool R.there, .string R.data, .int .i64 R.code] 43)) := (Below.refl _ _).alloc (Nat.le_refl _) _
  have hs4 := size_alloc u3 (.cells #[.bool R.there, .string R.data, .int .i64 R.code] 43)
  change Calls _ _ _ (u3.alloc (.cells #[.bool R.there, .string R.data, .int .i64 R.code] 43)) _
  generalize u3.alloc (.cells #[.bool R.there, .string R.data, .int .i64 R.code] 43) = u4 at k4 hb4 hs4 ⊢
  have HB4 := Lib.hid (HB3.out.trans (hb4.mono HB3.out.size))
  refine (toHist_any A0 n0 c0 X0 u4 (by omega) (HA.out.next HB4.out)).mono ?_
  rintro e u5 ⟨rfl, ho5, hb5⟩
  have HB45 := Lib.hid hb5
  have HB5 := Lib.hid (HB4.out.trans (hb5.mono HB4.out.size))
  have HK5 := Lib.hid ((HK3.out.below hb4 HK3.out.lt).below hb5 (by omega))
  have HKW5 := Lib.hid (k4.below hb5 k4.lt)
  have HO5 := Lib.hid ho5
  have h34 : u3.heap.size < u4.heap.size := by omega
  have h45 := hb5.size
  clear hb5 ho5 hb4 hs4 k4 hx3
  go_wp2_with fail
  have k6 := isBlk_new u5 25 [.slice (some ⟨u4.heap.size + 3, 0, none⟩) n0 n0]
  have hb6 : Below u5.heap.size u5 (u5.alloc (.cells #[.slice (some ⟨u4.heap.size + 3, 0, none⟩) n0 n0] 25)) := (Below.refl _ _).alloc (Nat.le_refl _) _
  have hs6 := size_alloc u5 (.cells #[.slice (some ⟨u4.heap.size + 3, 0, none⟩) n0 n0] 25)
  change Calls _ _ _ (u5.alloc (.cells #[.slice (some ⟨u4.heap.size + 3, 0, none⟩) n0 n0] 25)) _
  generalize u5.alloc (.cells #[.slice (some ⟨u4.heap.size + 3, 0, none⟩) n0 n0] 25) = u6 at k6 hb6 hs6 ⊢
  refine (HIMPL.out _ n0 u6 (Nat.le_refl _) ((HO5.out.below hb6 (Nat.le_refl _)).rd hb6.size)).mono ?_
  rintro e u7 ⟨rfl, hb7⟩
  have HB57 := Lib.hid (hb6.trans (hb7.mono hb6.size))
  have HB7 := Lib.hid (HB5.out.trans (HB57.out.mono HB5.out.size))
  have HK7 := Lib.hid (HK5.out.below HB57.out HK5.out.lt)
  have HKW7 := Lib.hid (HKW5.out.below HB57.out HKW5.out.lt)
  have HKX7 := Lib.hid (k6.below hb7 k6.lt)
  have HOX7 := Lib.hid (HO5.out.below HB57.out (Nat.le_refl _))
  have h56 : u5.heap.size < u6.heap.size := by omega
  have h67 := hb7.size
  have h37 : u3.heap.size < u7.heap.size := by omega
  obtain ⟨e0, e1, e2, -, -, -⟩ := blk3 HKW7.out
  clear hb6 hb7 k6 hs6 HO5
  go_wp2_with fail
  have k8 := isBlk_new u7 43 [.bool R.there, .string R.data, .int .i64 R.code]
  have hb8 : Below u7.heap.size u7 (u7.alloc (.cells #[.bool R.there, .string R.data, .int .i64 R.code] 43)) := (Below.refl _ _).alloc (Nat.le_refl _) _
  have hs8 := size_alloc u7 (.cells #[.bool R.there, .string R.data, .int .i64 R.code] 43)
  change Calls _ _ _ (u7.alloc (.cells #[.bool R.there, .string R.data, .int .i64 R.code] 43)) _
  generalize u7.alloc (.cells #[.bool R.there, .string R.data, .int .i64 R.code] 43) = u8 at k8 hb8 hs8 ⊢
  refine (eqValueOut_same R u8).mono ?_
  rintro e u9 ⟨rfl, hb9⟩
  have HB79 := Lib.hid (hb8.trans (hb9.mono hb8.size))
  have HB9 := Lib.hid (HB7.out.trans (HB79.out.mono HB7.out.size))
  have hx9 : u9.cell? ⟨w.heap.size, 0, none⟩ = some (.slice A0 n0 c0) := (HK7.out.below HB79.out HK7.out.lt).cell rfl
  have hy9 : u9.cell? ⟨u5.heap.size, 0, none⟩ = some (.slice (some ⟨u4.heap.size + 3, 0, none⟩) n0 n0) := (HKX7.out.below HB79.out HKX7.out.lt).cell rfl
  have hlx : w.heap.size < u9.heap.size := by have := HK7.out.lt; have := HB79.out.size; omega
  have hly : u5.heap.size < u9.heap.size := by have := HKX7.out.lt; have := HB79.out.size; omega
  have h79 := HB79.out.size
  have HOX9 := Lib.hid (HOX7.out.below HB79.out (by omega))
  clear hb8 hb9 hs8 k8 e0 e1 e2
  go_wp2
  have HD9 : Hid (Below u9.heap.size u9 u9.drew) := (Below.refl _ _).drew
  have HR9 : Hid (RdRc u9.drew u9.drew.heap.size A0 n0 X0) := (HA.out.next HB9.out).next HD9.out
  go_region_held3 (fun w' => w'.cell? ⟨w.heap.size, 0, none⟩ = some (.slice A0 n0 c0) ∧ w'.cell? ⟨u5.heap.size, 0, none⟩ = some (.slice (some ⟨u4.heap.size + 3, 0, none⟩) n0 n0))
    (first | exact ⟨hx9, hy9⟩ | exact hsa | exact hsb | go_keep)
    (first
      | (go_at_call 47
         refine (toHist_any A0 n0 c0 X0 u9.drew (by omega) HR9.out).mono ?_
         rintro e ua ⟨rfl, hoa, hba⟩
         have hsa : ua.cell? ⟨w.heap.size, 0, none⟩ = some (.slice A0 n0 c0) ∧ ua.cell? ⟨u5.heap.size, 0, none⟩ = some (.slice (some ⟨u4.heap.size + 3, 0, none⟩) n0 n0) :=
           ⟨(hba.cell (p := ⟨w.heap.size, 0, none⟩) hlx).trans hx9, (hba.cell (p := ⟨u5.heap.size, 0, none⟩) hly).trans hy9⟩
         have HBa := Lib.hid (HD9.out.trans hba)
         have HOa := Lib.hid hoa
         clear hoa hba)
      | (go_at_call 48
         refine (eqHist_same _ _ n0 n0 n0 X0 _ (by omega) ((HOX9.out.below HBa.out (by omega)).rd (by have := HBa.out.size; omega)) (HOa.out.rd (Nat.le_refl _))).mono ?_
         rintro e ub ⟨rfl, hbb⟩
         have HBb := Lib.hid (HBa.out.trans (hbb.mono HBa.out.size))
         have hsb : ub.cell? ⟨w.heap.size, 0, none⟩ = some (.slice A0 n0 c0) ∧ ub.cell? ⟨u5.heap.size, 0, none⟩ = some (.slice (some ⟨u4.heap.size + 3, 0, none⟩) n0 n0) :=
           ⟨(HBb.out.cell (p := ⟨w.heap.size, 0, none⟩) hlx).trans hx9, (HBb.out.cell (p := ⟨u5.heap.size, 0, none⟩) hly).trans hy9⟩
         clear hbb))
  all_goals
    go_wp2
    go_ret
    exact ⟨rfl, HB9.out.trans (HBb.out.mono HB9.out.size)⟩

set_option maxRecDepth 100000 in
theorem lifted (os : Os) (started : os.Started) (H : Type) (enc : TypeId × Value → H) :
    ReturnsInHanded {} Try.checked os 11 .any (Rows.fnExactAsOfSpec.pre6 enc Try.prog Try.f11 Rows.fnExactAsOfRow.domain false) (Rows.fnExactAsOfSpec.post enc Try.prog Try.f11 false true false false) := by
  refine returnsInHanded_of_change (C := Try.checked) own started (by kernel_rfl) Try.func11
    (ChangeSpec.witness6 (enc := enc) (C := Try.checked) false ⟨#[], #[.agg #[.slice none 0 0], .int .i64 0, .int .i64 0], []⟩ 8 (by kernel_rfl) (by kernel_rfl) (by kernel_rfl) (by kernel_rfl)) ?_
  intro W base args ds gs before hval0 hW hcnd _
  have hval : ∀ (j : Nat) t v, Try.f11.params[j]? = some t → args[j]? = some v → Value.okWide Try.prog W .any base t v := hval0
  have hW' := hW
  obtain ⟨p, q, hA0, hV, rfl, hfz, hnd⟩ := hW
  have hA : DataW.TrodAll enc Try.prog W 0 (fun _ => true) true Try.f11.params.toList args.toList ds p := hA0
  rw [Try.params11] at hA hval
  obtain ⟨v0, vs0, d0, ds0, p0, q0, hargs, rfl, rfl, h0, r0⟩ := trodAll_cons hA
  obtain ⟨v1, vs1, d1, ds1, p1, q1, rfl, rfl, rfl, h1, r1⟩ := trodAll_cons r0
  obtain ⟨v2, vs2, d2, ds2, p2, q2, rfl, rfl, rfl, h2, r2⟩ := trodAll_cons r1
  obtain ⟨rfl, rfl, rfl⟩ := trodAll_nil r2
  obtain rfl : args = #[v0, v1, v2] := by cases args; simp_all
  obtain ⟨rfl, rfl⟩ := trodVars_none hV
  have k0 := h0
  have lt0 : ∀ x ∈ p0, x.block < W.heap.size := by obtain ⟨m, hm⟩ := k0; exact DataW.trod_lt m _ _ _ hm
  obtain ⟨A0, n0, c0, X0, rfl, w0, x0⟩ := open_lawsHist (hval 0 55 v0 rfl rfl) h0
  obtain ⟨a1, rfl, rfl, rfl, w1⟩ := open_int Try.underlying2 (hval 1 2 v1 rfl rfl) h1
  obtain ⟨a2, rfl, rfl, rfl, w2⟩ := open_int Try.underlying2 (hval 2 2 v2 rfl rfl) h2
  clear hA0 hval0
  refine (walk A0 n0 c0 X0 a1 a2 W w0 x0 w1 w2).mono fun e W' ⟨he, bel⟩ => ?_
  subst he
  exact ⟨_, rfl, _, _, _, [], _, [], hW', trodAll_mk1 (shut_bool Try.underlying4 _), (trodAll_cons_mk (Below.trod laidOut (by kernel_rfl) (of_decide_eq_true (by kernel_rfl)) k0 bel lt0) (trodAll_cons_mk (shut_int Try.underlying2 w1) (trodAll_cons_mk (shut_int Try.underlying2 w2) trodAll_mk0))), rfl, bel.frame _, fun h => by cases h⟩

theorem over : Rows.fnExactAsOfRow.holds Try.pinned (OpenSpec.ofChange Rows.fnExactAsOfSpec) :=
  OpenClaim.holds_of_wide 11 Try.f11 rfl rfl rfl rfl rfl rfl rfl ⟨rfl, rfl, rfl, rfl, rfl⟩ rfl rfl rfl rfl rfl (by kernel_rfl) Try.func11 (by kernel_rfl)
    (of_decide_eq_true (by kernel_rfl)) (by unfold Func.isWrapper; first | (rw [if_pos (by decide +kernel)]; kernel_rfl) | (rw [if_neg (by decide +kernel)]; exact ⟨rfl, rfl⟩))
    (fun os started H enc _ => lifted os started H enc)

theorem proved : Rows.FnExactAsOfSaid := over
#print axioms proved
end Go.Proofs.Ytllpmflkcfnknaa.fnExactAsOf
