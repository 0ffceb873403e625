/-
  For every pair of slots, the law FnExactCkptBest returns true: the program's CkptBest answers as the document's, and its answer owns its memory. The variable errors.errorType holds what package errors lays there.
-/
import Derived.Test.YtginfgepamidkaaDoorRows
import Derived.Test.YtginfgepamidkaaDoorTie
import Derived.Test.YtginfgepamidkaaDoorCards
import Derived.Test.YtginfgepamidkaaDoorCkMark
import Derived.Test.YtginfgepamidkaaDoorCkSlots
import Derived.Test.YtginfgepamidkaaDoorCkBestM
import Derived.WalkKit
import Derived.ProofKit
import Derived.OpenShut
import Derived.ShutString
import Derived.ChangeOld
import Derived.ChangeSame
import Derived.ChangeVars
import Derived.JoinedOf
import Derived.RowKitTokens
import Derived.LaidLaws
import Derived.LaidHandle
import Derived.Stop.Joined
import Derived.SevenTiedAt
import Derived.Below
namespace Go.Proofs.YtginfgepamidkaaDoor.fnExactCkptBest
open Go.ChangeShapes Go.WideShapes Go.ChangeAt Go.RowKit
open Go.ChangeMaps (open_string shut_string)
set_option linter.unusedVariables false

theorem own : ownKnob Tryd.prog.godebug = none := by kernel_rfl
theorem et : Tryd.prog.globalNamed "errors.errorType" = some 0 := by kernel_rfl
theorem rt : (Tryd.prog.cutTypes.find? (·.1 == "internal/reflectlite.rtype")).map (·.2) = some 117 := by kernel_rfl
theorem oneRow : ((List.range 158).filter fun t => Tryd.prog.rowNamed t [101, 114, 114, 111, 114]) = [85] := by kernel_rfl
theorem types_size : Tryd.prog.types.size = 158 := by kernel_rfl

theorem handle_of_laid {W : World} (h : laidMetH Tryd.prog Rows.fnExactCkptBestRow.laid W) : ErrType W := by
  have h' : laidMet Tryd.prog [] W ∧ handlesMet Tryd.prog Rows.fnExactCkptBestRow.laid W := h
  obtain ⟨name, u, ty, e1, e2, e3, e4, e5⟩ := h'.2 _ (List.mem_singleton.2 rfl)
  have en : name = [101, 114, 114, 111, 114] := (Option.some.inj e1).symm
  subst en
  obtain rfl := Option.some.inj (rt.symm.trans e2)
  have hm : ty ∈ (List.range 158).filter fun t => Tryd.prog.rowNamed t [101, 114, 114, 111, 114] := List.mem_filter.2 ⟨List.mem_range.2 (by rw [← types_size]; exact e3), e4⟩
  rw [oneRow] at hm
  obtain rfl := List.mem_singleton.1 hm
  have hh : typeHandle Tryd.prog 85 = .pointer (some ⟨1, 85, none⟩) := by kernel_rfl
  rw [hh] at e5
  exact (by simpa using World.var?_cell et e5 0 : W.cell? ⟨0, 0, none⟩ = some (.iface 117 (.agg #[.pointer (some ⟨1, 85, none⟩)])))

noncomputable def laidWorld (os : Os) : World :=
  let w0 := World.holding Tryd.prog os ⟨#[], #[], []⟩
  { w0 with heap := w0.heap.modify 0 fun
      | .cells _ t frozen => .cells #[.iface 117 (.agg #[.pointer (some ⟨1, 85, none⟩)])] t frozen
      | o => o }
theorem laidWorld_met (os : Os) (args : Array Value) : laidMetH Tryd.prog Rows.fnExactCkptBestRow.laid ((laidWorld os).forCall (fun _ _ => 0) ⟨#[], args, []⟩).memory :=
  laidMetH_of_parts (laidMet_nil _ _) (by kernel_rfl)

theorem laidOut : laidOutB Tryd.prog = true := by kernel_rfl
set_option maxHeartbeats 8000000 in
set_option maxRecDepth 100000 in
theorem walk (w : World) (a0 b0 : ByteArray) (w0 : a0.size ≤ maxLen ∧ b0.size ≤ maxLen) (hg : ErrType w) :
    Calls Tryd.prog 3 #[.agg #[.string a0, .string b0]] w fun e w' => e = .returned (.bool true) ∧ Below w.heap.size w w' := by
  have HG := Lib.hid hg; clear hg
  obtain ⟨wa, wb⟩ := w0
  obtain ⟨R, hR⟩ : ∃ R, R = cbList a0 b0 := ⟨_, rfl⟩
  obtain ⟨Q, hQ⟩ : ∃ Q, Q = cbNum a0 b0 := ⟨_, rfl⟩
  obtain ⟨C, hC⟩ : ∃ C, C = cbCode a0 b0 := ⟨_, rfl⟩
  have hRl : R.length ≤ 48 := by rw [hR]; exact cbList_len a0 b0
  have HSPEC : Hid (∀ W : World, Calls Tryd.prog 5 #[slotsV a0 b0] W (RetCk W Q R C)) := fun W => by rw [hR, hC, hQ]; exact spec_ckptBest a0 b0 W wa wb
  have HIMPL : Hid (∀ W : World, ErrType W → Calls Tryd.prog 7 #[slotsV a0 b0] W (RetCk W Q R C)) := fun W hW => by rw [hR, hC, hQ]; exact impl_ckptBest a0 b0 W wa wb hW
  obtain ⟨nR, hnR⟩ : ∃ nR, nR = R.length := ⟨_, rfl⟩
  have HNR := Lib.hid hnR
  have hnl : nR ≤ 48 := by omega
  obtain ⟨M, hM⟩ : ∃ M, M = 1 + 6 * nR := ⟨_, rfl⟩
  have HM := Lib.hid hM
  have hMl : M ≤ 289 := by omega
  clear hR hC hQ hnR hM hRl
  go_enter Tryd.func3, Tryd.ntmps3
  have hb0 : Below w.heap.size w (w.alloc (.cells #[.string a0, .string b0] 23)) := (Below.refl _ _).alloc (Nat.le_refl _) _
  have k0 := isBlk_new w 23 [.string a0, .string b0]
  change IsBlk (w.alloc (.cells #[.string a0, .string b0] 23)) _ _ _ at k0
  go_wp2_with fail
  generalize w.alloc (.cells #[.string a0, .string b0] 23) = W at hb0 k0 ⊢
  have HB0 := Lib.hid hb0
  have HGW := Lib.hid (HG.out.below hb0)
  have hlW := k0.lt
  have hwW := hb0.size
  have s0 : W.cell? ⟨w.heap.size, 0, none⟩ = some (.string a0) := k0.cell rfl
  have s1 : W.cell? ⟨w.heap.size, 1, none⟩ = some (.string b0) := k0.cell rfl
  have T0 := Lib.hid (fun (u : World) (h : Below W.heap.size W u) => (h.cell (p := ⟨w.heap.size, 0, none⟩) hlW).trans s0)
  have T1 := Lib.hid (fun (u : World) (h : Below W.heap.size W u) => (h.cell (p := ⟨w.heap.size, 1, none⟩) hlW).trans s1)
  clear hb0 k0 s0 s1 HG
  refine (szSlots_any a0 b0 1048576 W (by omega) (by omega) wa wb).mono ?_
  rintro e x1 ⟨rfl, hbx1⟩
  have HX1 := Lib.hid hbx1
  clear hbx1
  by_cases hs : ((a0.size + b0.size : Nat) : Int) ≤ 1048576
  case neg =>
    have hz := szR_no (t := a0.size + b0.size) (left := 1048576) (by omega)
    go_wp2
    go_ret
    exact ⟨rfl, HB0.out.trans (HX1.out.mono hwW)⟩
  have hz := szR_ok hs
  have hnn : 0 ≤ 1048576 - ((a0.size + b0.size : Nat) : Int) := by omega
  have t0 := T0.out _ HX1.out
  have t1 := T1.out _ HX1.out
  rw [hz]
  go_wp2_with fail
  refine (toSlots_any a0 b0 _).mono ?_
  rintro e x2 ⟨rfl, hbx2⟩
  have HX2 := Lib.hid (HX1.out.trans (hbx2.mono HX1.out.size))
  clear hbx2 t0 t1
  go_wp2_with fail
  refine (HSPEC.out _).mono ?_
  rintro e u1 ⟨Aw, cw, rfl, ho1, hb1⟩
  rw [← HNR.out] at ho1 ⊢
  have HB1 := Lib.hid (HX2.out.trans (hb1.mono HX2.out.size))
  have hX2z := HX2.out.size
  have hX1z := hb1.size
  clear hb1
  have hBX1 : Below W.heap.size W (u1.alloc (.cells #[.int .i64 Q, .slice Aw nR cw, .int .i64 C] 29)) := HB1.out.alloc HB1.out.size _
  have t0 := T0.out _ hBX1
  have t1 := T1.out _ hBX1
  clear hBX1
  go_wp2_with fail
  have hs1 : u1.heap.size < (u1.alloc (.cells #[.int .i64 Q, .slice Aw nR cw, .int .i64 C] 29)).heap.size := by rw [size_alloc]; exact Nat.lt_succ_self _
  have hbb1 : Below u1.heap.size u1 (u1.alloc (.cells #[.int .i64 Q, .slice Aw nR cw, .int .i64 C] 29)) := (Below.refl _ _).alloc (Nat.le_refl _) _
  have k1 := isBlk_new u1 29 [.int .i64 Q, .slice Aw nR cw, .int .i64 C]
  change IsBlk (u1.alloc (.cells #[.int .i64 Q, .slice Aw nR cw, .int .i64 C] 29)) _ _ _ at k1
  change Calls _ _ _ (u1.alloc (.cells #[.int .i64 Q, .slice Aw nR cw, .int .i64 C] 29)) _
  generalize (u1.alloc (.cells #[.int .i64 Q, .slice Aw nR cw, .int .i64 C] 29)) = v1 at hs1 hbb1 k1 ⊢
  have HB1b := Lib.hid (HB1.out.trans (hbb1.mono HB1.out.size))
  have HOW1 := Lib.hid (ho1.below hbb1 (Nat.le_refl _))
  have HK1 := Lib.hid k1
  have h1w := HB1.out.size
  clear ho1 k1 hbb1
  refine (toSlots_any a0 b0 _).mono ?_
  rintro e v1' ⟨rfl, hbv⟩
  have hv1z := hbv.size
  have HB1c := Lib.hid (HB1b.out.trans (hbv.mono HB1b.out.size))
  have HOW1 := Lib.hid (HOW1.out.below hbv (by omega))
  have HK1 := Lib.hid (HK1.out.below hbv HK1.out.lt)
  clear hbv t0 t1 HB1b
  have HB1b := HB1c
  go_wp2_with fail
  refine (HIMPL.out v1' (HGW.out.below HB1b.out)).mono ?_
  rintro e u2 ⟨Ag, cg, rfl, ho2, hb2⟩
  rw [← HNR.out] at ho2 ⊢
  have HB2 := Lib.hid (HB1b.out.trans (hb2.mono HB1b.out.size))
  have HOW2 := Lib.hid (HOW1.out.below hb2 (by omega))
  have HK1b := Lib.hid (HK1.out.below hb2 HK1.out.lt)
  have h12 := hb2.size
  have HOG2 := Lib.hid ho2
  clear hb2 ho2 HOW1 HK1
  obtain ⟨c0, c1, c2, -⟩ := blk3k HK1b.out
  have hlt1 : u1.heap.size < u2.heap.size := HK1b.out.lt
  go_wp2_with fail
  have hs2 : u2.heap.size < (u2.alloc (.cells #[.int .i64 Q, .slice Ag nR cg, .int .i64 C] 29)).heap.size := by rw [size_alloc]; exact Nat.lt_succ_self _
  have hbb2 : Below u2.heap.size u2 (u2.alloc (.cells #[.int .i64 Q, .slice Ag nR cg, .int .i64 C] 29)) := (Below.refl _ _).alloc (Nat.le_refl _) _
  have k2 := isBlk_new u2 29 [.int .i64 Q, .slice Ag nR cg, .int .i64 C]
  change IsBlk (u2.alloc (.cells #[.int .i64 Q, .slice Ag nR cg, .int .i64 C] 29)) _ _ _ at k2
  change Calls _ _ _ (u2.alloc (.cells #[.int .i64 Q, .slice Ag nR cg, .int .i64 C] 29)) _
  generalize (u2.alloc (.cells #[.int .i64 Q, .slice Ag nR cg, .int .i64 C] 29)) = v2 at hs2 hbb2 k2 ⊢
  have HB2b := Lib.hid (HB2.out.trans (hbb2.mono HB2.out.size))
  have HOW2b := Lib.hid (HOW2.out.below hbb2 (by omega))
  have HOG2b := Lib.hid (HOG2.out.below hbb2 (Nat.le_refl _))
  have HK1c := Lib.hid (HK1b.out.below hbb2 HK1b.out.lt)
  have HK2 := Lib.hid k2
  clear k2 hbb2 HOW2 HOG2 HK1b c0 c1 c2
  refine (eqCkOut_same Ag Aw nR cg cw R Q C v2 (by omega) (HOG2b.out.rd (by omega)) (HOW2b.out.rd (by omega))).mono ?_
  rintro e u3 ⟨rfl, hb3⟩
  have HB3 := Lib.hid (HB2b.out.trans (hb3.mono HB2b.out.size))
  have HOW3 := Lib.hid (HOW2b.out.below hb3 (by omega))
  have HOG3 := Lib.hid (HOG2b.out.below hb3 (by omega))
  have HK13 := Lib.hid (HK1c.out.below hb3 HK1c.out.lt)
  have HK23 := Lib.hid (HK2.out.below hb3 HK2.out.lt)
  have h23 := hb3.size
  obtain ⟨c0, c1, c2, -⟩ := blk3k HK23.out
  clear hb3 HOW2b HOG2b HK1c HK2
  go_wp2_with fail
  refine (markCkOut_any Ag v1'.heap.size u2.heap.size nR cg 1 R Q C u3 (by omega) (by omega) (by omega) HOG3.out).mono ?_
  rintro e u4 ⟨rfl, hm4, hb4⟩
  rw [← HM.out]
  have h34 := hb4.size
  have HB4 : Hid (Below W.heap.size W u4) := HB3.out.trans ((hb4.below (by omega)).mono (by omega))
  have HMK4 := Lib.hid hm4
  have HOW4 := Lib.hid (HOW3.out.btw hb4 (by omega) (by omega))
  have HK14 : Hid (IsBlk u4 u1.heap.size 29 [.int .i64 Q, .slice Aw nR cw, .int .i64 C]) := (hb4.block _ HK13.out.lt (by omega)).trans HK13.out
  have HK24 : Hid (IsBlk u4 u2.heap.size 29 [.int .i64 Q, .slice Ag nR cg, .int .i64 C]) := (hb4.block _ HK23.out.lt (by omega)).trans HK23.out
  clear hb4 hm4 HOW3 HOG3 HK13 HK23 c0 c1 c2
  obtain ⟨c0, c1, c2, -⟩ := blk3k HK24.out
  go_wp2_with fail
  refine (heldCkOut_any Ag v1'.heap.size u2.heap.size nR cg 1 Q C u4 (by omega) (by omega) (by omega) HMK4.out).mono ?_
  rintro e u5 ⟨rfl, hb5⟩
  rw [← HM.out]
  have h45 := hb5.size
  have HB5 := Lib.hid (HB4.out.trans (hb5.mono HB4.out.size))
  have HMK5 := Lib.hid (HMK4.out.below hb5 (by omega))
  have HOW5 := Lib.hid (HOW4.out.below hb5 (by omega))
  have HK15 := Lib.hid (HK14.out.below hb5 HK14.out.lt)
  have HK25 := Lib.hid (HK24.out.below hb5 HK24.out.lt)
  clear hb5 HMK4 HOW4 HK14 HK24 c0 c1 c2
  have t0 := T0.out _ HB5.out
  have t1 := T1.out _ HB5.out
  go_wp2_with fail
  refine (toSlots_any a0 b0 _).mono ?_
  rintro e u5' ⟨rfl, hbv⟩
  have hu5z := hbv.size
  have HB5 := Lib.hid (HB5.out.trans (hbv.mono HB5.out.size))
  have HMK5 := Lib.hid (HMK5.out.below hbv (by omega))
  have HOW5 := Lib.hid (HOW5.out.below hbv (by omega))
  have HK15 := Lib.hid (HK15.out.below hbv HK15.out.lt)
  have HK25 := Lib.hid (HK25.out.below hbv HK25.out.lt)
  clear hbv t0 t1
  go_wp2_with fail
  refine (HIMPL.out u5' (HGW.out.below HB5.out)).mono ?_
  rintro e u6 ⟨Ah, ch, rfl, ho6, hb6⟩
  rw [← HNR.out] at ho6 ⊢
  have h56 := hb6.size
  have HB6 := Lib.hid (HB5.out.trans (hb6.mono HB5.out.size))
  have HMK6 := Lib.hid (HMK5.out.below hb6 (by omega))
  have HOW6 := Lib.hid (HOW5.out.below hb6 (by omega))
  have HK16 := Lib.hid (HK15.out.below hb6 HK15.out.lt)
  have HK26 := Lib.hid (HK25.out.below hb6 HK25.out.lt)
  have HOH6 := Lib.hid ho6
  clear hb6 ho6 HMK5 HOW5 HK15 HK25
  obtain ⟨c0, c1, c2, -⟩ := blk3k HK16.out
  have hlt6 : u1.heap.size < u6.heap.size := HK16.out.lt
  go_wp2_with fail
  have hs6 : u6.heap.size < (u6.alloc (.cells #[.int .i64 Q, .slice Ah nR ch, .int .i64 C] 29)).heap.size := by rw [size_alloc]; exact Nat.lt_succ_self _
  have hbb6 : Below u6.heap.size u6 (u6.alloc (.cells #[.int .i64 Q, .slice Ah nR ch, .int .i64 C] 29)) := (Below.refl _ _).alloc (Nat.le_refl _) _
  change Calls _ _ _ (u6.alloc (.cells #[.int .i64 Q, .slice Ah nR ch, .int .i64 C] 29)) _
  generalize (u6.alloc (.cells #[.int .i64 Q, .slice Ah nR ch, .int .i64 C] 29)) = v6 at hs6 hbb6 ⊢
  have HB6b := Lib.hid (HB6.out.trans (hbb6.mono HB6.out.size))
  have HMK6b := Lib.hid (HMK6.out.below hbb6 (by omega))
  have HOW6b := Lib.hid (HOW6.out.below hbb6 (by omega))
  have HOH6b := Lib.hid (HOH6.out.below hbb6 (Nat.le_refl _))
  have HK26b := Lib.hid (HK26.out.below hbb6 HK26.out.lt)
  clear hbb6 HMK6 HOW6 HOH6 HK16 HK26 c0 c1 c2
  refine (eqCkOut_same Ah Aw nR ch cw R Q C v6 (by omega) (HOH6b.out.rd (by omega)) (HOW6b.out.rd (by omega))).mono ?_
  rintro e u7 ⟨rfl, hb7⟩
  have h67 := hb7.size
  have HB7 := Lib.hid (HB6b.out.trans (hb7.mono HB6b.out.size))
  have HMK7 := Lib.hid (HMK6b.out.below hb7 (by omega))
  obtain ⟨c0, c1, c2, -⟩ := blk3k (HK26b.out.below hb7 HK26b.out.lt)
  clear hb7 HMK6b HOW6b HOH6b HK26b
  go_wp2_with fail
  refine (heldCkOut_any Ag v1'.heap.size u2.heap.size nR cg 1 Q C u7 (by omega) (by omega) (by omega) HMK7.out).mono ?_
  rintro e u8 ⟨rfl, hb8⟩
  rw [← HM.out]
  have HB8 := Lib.hid (HB7.out.trans (hb8.mono HB7.out.size))
  clear hb8 c0 c1 c2
  go_wp2
  go_ret
  exact ⟨rfl, HB0.out.trans (HB8.out.mono hwW)⟩

set_option maxRecDepth 100000 in
theorem lifted (os : Os) (started : os.Started) (H : Type) (enc : TypeId × Value → H) :
    ReturnsInHanded {} Tryd.checked os 3 .any (fun w args => (Rows.fnExactCkptBestSpec.pre enc Tryd.prog Tryd.f3 [] false w args ∧ laidMetH Tryd.prog Rows.fnExactCkptBestRow.laid w) ∧ sizedMet enc Tryd.prog Tryd.f3 (OpenSpec.ofChange Rows.fnExactCkptBestSpec) false w args)
      (Rows.fnExactCkptBestSpec.post enc Tryd.prog Tryd.f3 false true false false) := by
  refine returnsInHanded_of_change_and (C := Tryd.checked) (X := fun w _ => laidMetH Tryd.prog Rows.fnExactCkptBestRow.laid w) (fun _ _ _ hh h => h.of_heap hh) own started (by kernel_rfl) Tryd.func3
    (ChangeSpec.witness_at (enc := enc) (C := Tryd.checked) (os := os) (X := fun w _ => laidMetH Tryd.prog Rows.fnExactCkptBestRow.laid w) false (laidWorld os) #[.agg #[.string ByteArray.empty, .string ByteArray.empty]] 8 rfl (by kernel_rfl) (by kernel_rfl) (by kernel_rfl) (by kernel_rfl) (by kernel_rfl) (laidWorld_met os _)) ?_
  intro W base args ds gs before hval0 hW _ _ hL _
  have hval : ∀ (j : Nat) t v, Tryd.f3.params[j]? = some t → args[j]? = some v → Value.okWide Tryd.prog W .any base t v := hval0
  have hW' := hW
  obtain ⟨p, q, hA0, hV, rfl, hfz, hnd⟩ := hW
  have hA : DataW.TrodAll enc Tryd.prog W 0 (fun _ => true) true Tryd.f3.params.toList args.toList ds p := hA0
  rw [Tryd.params3] at hA hval
  obtain ⟨v0, vs0, d0, ds0, p0, q0, hargs, rfl, rfl, h0, r0⟩ := trodAll_cons hA
  obtain ⟨rfl, rfl, rfl⟩ := trodAll_nil r0
  obtain rfl : args = #[v0] := by cases args; simp_all
  obtain ⟨rfl, rfl⟩ := trodVars_none hV
  have k0 := h0
  have lt0 : ∀ x ∈ p0, x.block < W.heap.size := by obtain ⟨m, hm⟩ := k0; exact DataW.trod_lt m _ _ _ hm
  obtain ⟨a0, b0, rfl, w0⟩ := open_lawsSlots (hval 0 23 v0 rfl rfl) h0
  clear hA0 hval0
  refine (walk W a0 b0 w0 (handle_of_laid hL)).mono fun e W' ⟨he, hg⟩ => ?_
  subst he
  exact ⟨_, rfl, _, _, _, [], _, [], hW', trodAll_mk1 (shut_bool Tryd.underlying4 _), (trodAll_cons_mk (Below.trod laidOut (by kernel_rfl) (of_decide_eq_true (by kernel_rfl)) k0 hg lt0) trodAll_mk0), rfl, hg.frame _, fun h => by cases h⟩

theorem over : Rows.FnExactCkptBestSaid :=
  OpenClaim.holds_of_wide 3 Tryd.f3 rfl rfl rfl rfl rfl rfl rfl ⟨rfl, rfl, rfl, rfl, rfl⟩ rfl rfl rfl rfl rfl (by kernel_rfl) Tryd.func3 (by kernel_rfl)
    (of_decide_eq_true (by kernel_rfl)) (by unfold Func.isWrapper; rw [if_neg (of_decide_eq_false (by kernel_rfl))]; exact ⟨rfl, rfl⟩)
    (fun os started H enc _ => lifted os started H enc)

theorem proved : Rows.FnExactCkptBestCardSaid :=
  Claim7.holds_tied_plain_at .later [] [.handle] true (true, "4bec7d2f1ca3f87e666c77c63b960da6d6817c66ab4cbf03897389b9115dd0d2") true
    over (fun _ h => by cases h) (by kernel_rfl) (fun _ h => by cases h) fnExactCkptBest_row_tie rfl ⟨rfl, rfl⟩ (by kernel_rfl) rfl
    (fun f fn hf hfn => by
      obtain rfl : f = 3 := Option.some.inj ((show Tryd.prog.funcNamed "loop.example/g00637/laws.FnExactCkptBest" = some 3 by kernel_rfl).symm.trans hf) |>.symm
      obtain rfl : fn = Tryd.f3 := (Option.some.inj (Tryd.func3.symm.trans hfn)).symm
      exact ⟨by kernel_rfl, fun j t ht => by
        rw [Tryd.params3] at ht
        have h3 : t = 23 := by
          rcases j with _ | j
          all_goals first | (simp at ht; subst ht; simp) | (simp at ht)
        subst h3
        exact (show Tryd.prog.wantsStandIn 23 = false by kernel_rfl)⟩)
    (by kernel_rfl)
#print axioms proved
end Go.Proofs.YtginfgepamidkaaDoor.fnExactCkptBest
