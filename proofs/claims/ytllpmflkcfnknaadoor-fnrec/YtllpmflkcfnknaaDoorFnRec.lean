/-
  For all strings of bytes code and more, the law FnRec returns true: at the drawn record and the drawn text the program's RecBytes, RecRead and RecRight answer as the model's; what RecBytes wrote is read back as that record and fits a page; what RecRead took is what RecBytes writes of it. The variable errors.errorType holds what package errors lays there.
-/
import Derived.Test.YtllpmflkcfnknaaDoorRows
import Derived.Test.YtllpmflkcfnknaaDoorTie
import Derived.Test.YtllpmflkcfnknaaDoorCards
import Derived.Test.YtllpmflkcfnknaaDoorRcOut
import Derived.Test.YtllpmflkcfnknaaDoorDrOpen
import Derived.Lib.QuietBelow
import Derived.BigQuiet
import Derived.BigRegion
import Derived.Deep.QuietTactic
import Derived.WalkKit
import Derived.ProofKit
import Derived.OpenShut
import Derived.ShutString
import Derived.ChangeOld
import Derived.ChangeSame
import Derived.ChangeVars
import Derived.JoinedOf
import Derived.RowKitTokens
import Derived.LaidLaws
import Derived.LaidHandle
import Derived.Stop.Joined
import Derived.SevenTiedAt
import Derived.Below
namespace Go.Proofs.YtllpmflkcfnknaaDoor.fnRec
open Go.ChangeShapes Go.WideShapes Go.ChangeAt Go.RowKit
open Go.ChangeMaps (open_string shut_string)
set_option linter.unusedVariables false

theorem own : ownKnob Tryd.prog.godebug = none := by kernel_rfl
theorem et : Tryd.prog.globalNamed "errors.errorType" = some 0 := by kernel_rfl
theorem rt : (Tryd.prog.cutTypes.find? (·.1 == "internal/reflectlite.rtype")).map (·.2) = some 99 := by kernel_rfl
theorem oneRow : ((List.range 140).filter fun t => Tryd.prog.rowNamed t [101, 114, 114, 111, 114]) = [75] := by kernel_rfl
theorem types_size : Tryd.prog.types.size = 140 := by kernel_rfl

theorem handle_of_laid {W : World} (h : laidMetH Tryd.prog Rows.fnRecRow.laid W) : ErrType W := by
  have h' : laidMet Tryd.prog [] W ∧ handlesMet Tryd.prog Rows.fnRecRow.laid W := h
  obtain ⟨name, u, ty, e1, e2, e3, e4, e5⟩ := h'.2 _ (List.mem_singleton.2 rfl)
  have en : name = [101, 114, 114, 111, 114] := (Option.some.inj e1).symm
  subst en
  obtain rfl := Option.some.inj (rt.symm.trans e2)
  have hm : ty ∈ (List.range 140).filter fun t => Tryd.prog.rowNamed t [101, 114, 114, 111, 114] := List.mem_filter.2 ⟨List.mem_range.2 (by rw [← types_size]; exact e3), e4⟩
  rw [oneRow] at hm
  obtain rfl := List.mem_singleton.1 hm
  have hh : typeHandle Tryd.prog 75 = .pointer (some ⟨1, 75, none⟩) := by kernel_rfl
  rw [hh] at e5
  exact (by simpa using World.var?_cell et e5 0 : W.cell? ⟨0, 0, none⟩ = some (.iface 99 (.agg #[.pointer (some ⟨1, 75, none⟩)])))

noncomputable def laidWorld (os : Os) : World :=
  let w0 := World.holding Tryd.prog os ⟨#[], #[], []⟩
  { w0 with heap := w0.heap.modify 0 fun
      | .cells _ t frozen => .cells #[.iface 99 (.agg #[.pointer (some ⟨1, 75, none⟩)])] t frozen
      | o => o }
theorem laidWorld_met (os : Os) (args : Array Value) : laidMetH Tryd.prog Rows.fnRecRow.laid ((laidWorld os).forCall (fun _ _ => 0) ⟨#[], args, []⟩).memory :=
  laidMetH_of_parts (laidMet_nil _ _) (by kernel_rfl)

theorem laidOut : laidOutB Tryd.prog = true := by kernel_rfl
set_option maxHeartbeats 8000000 in
set_option maxRecDepth 100000 in
theorem walk (w : World) (A0 : Option Addr) (n0 c0 : Nat) (w0 : RdBy w w.heap.size A0 n0) (x0 : n0 ≤ maxLen) (A1 : Option Addr) (n1 c1 : Nat) (w1 : RdBy w w.heap.size A1 n1) (x1 : n1 ≤ maxLen) (hg : ErrType w) :
    Calls Tryd.prog 3 #[.slice A0 n0 c0, .slice A1 n1 c1] w fun e w' => e = .returned (.bool true) ∧ Below w.heap.size w w' := by
  have HG := Lib.hid hg; clear hg
  have HW0 := Lib.hid w0; have HW1 := Lib.hid w1; clear w0 w1
  unfold maxLen at x0 x1
  by_cases hbig : 1048576 < n0
  · go_enter Tryd.func3, Tryd.ntmps3
    go_wp2
    go_ret
    exact ⟨rfl, Below.refl _ _⟩
  by_cases hbig1 : 1048576 < n1
  · go_enter Tryd.func3, Tryd.ntmps3
    go_wp2
    go_ret
    exact ⟨rfl, Below.refl _ _⟩
  go_enter Tryd.func3, Tryd.ntmps3
  go_wp2_with fail
  refine (drawRecBytes_any A0 n0 c0 _ (by omega) HW0.out).mono ?_
  rintro e u1 ⟨r, rfl, hr, hb1⟩
  have HB1 := Lib.hid hb1; have HG1 := Lib.hid (HG.out.below hb1); clear hb1
  have HK1 := Lib.hid (isBlk_new u1 24 (recC r))
  have hrm : r.d.size ≤ maxLen := by unfold maxLen; omega
  go_wp2_with fail
  refine (impl_recBytes_any r _ hrm).mono ?_
  rintro e u2 ⟨he, hb2⟩
  obtain ⟨T, he', hT⟩ : ∃ T : ByteArray, e = .returned (.string T) ∧ T = bstr r.bytes := ⟨_, he, rfl⟩
  clear he
  subst he'
  have HT := Lib.hid hT; clear hT
  obtain ⟨HB2, HK2⟩ := rcStep (HB1.out.alloc HB1.out.size _) HK1.out hb2
  have HG2 := Lib.hid ((HG1.out.alloc _).below hb2)
  clear hb2 HB1 HK1 HG1
  go_wp2_with fail
  refine (drawRecRead_any A1 n1 c1 _ (by omega) (rdBy_below HW1.out HB2.out HB2.out.size)).mono ?_
  rintro e u3 ⟨t, rfl, ht, hb3⟩
  obtain ⟨HB3, HK3⟩ := rcStep HB2.out HK2.out hb3
  have HG3 := Lib.hid (HG2.out.below hb3)
  clear hb3 HB2 HK2 HG2
  go_wp2_with fail
  refine (impl_recRead_any t _ ht HG3.out).mono ?_
  rintro e u4 ⟨he, hb4⟩
  obtain ⟨O, he', hO⟩ : ∃ O : Bt.Rc × Int, e = .returned (routV O) ∧ O = Bt.recRead t := ⟨_, he, rfl⟩
  clear he
  subst he'
  have HO := Lib.hid hO; clear hO
  obtain ⟨HB4, HK4⟩ := rcStep HB3.out HK3.out hb4
  have HG4 := Lib.hid (HG3.out.below hb4)
  clear hb4 HB3 HK3 HG3
  obtain ⟨⟨ok, os, oq, ot, oo, od⟩, oc⟩ := O
  go_wp2_with fail
  generalize hV : World.alloc u4 _ = V
  have HX : Hid (IsBlk V u4.heap.size 29 (routC (⟨ok, os, oq, ot, oo, od⟩, oc))) := by rw [← hV]; exact isBlk_new u4 _ _
  have HR : Hid (IsBlk V u1.heap.size 24 (recC r)) := by rw [← hV]; exact HK4.out.alloc _
  have HG5 : Hid (ErrType V) := by rw [← hV]; exact HG4.out.alloc _
  have HB5 : Hid (Below w.heap.size w V) := by rw [← hV]; exact HB4.out.alloc HB4.out.size _
  clear hV HK4 HG4 HB4
  generalize u4.heap.size = xb at *
  generalize u1.heap.size = rb at *
  obtain ⟨k0, k1, k2, k3, k4, k5⟩ := rcCells HR.out
  obtain ⟨⟨z0, z1, z2, z3, z4, z5, z6⟩, -⟩ := routCells HX.out
  try dsimp only at z0 z1 z2 z3 z4 z5 z6
  have k0' := cell_regrown k0; have k1' := cell_regrown k1; have k2' := cell_regrown k2; have k3' := cell_regrown k3; have k4' := cell_regrown k4; have k5' := cell_regrown k5
  have z0' := cell_regrown z0; have z1' := cell_regrown z1; have z2' := cell_regrown z2; have z3' := cell_regrown z3; have z4' := cell_regrown z4; have z5' := cell_regrown z5; have z6' := cell_regrown z6
  have heq := equalIn_out
  have hgd := rout_guard
  refine wp_region_quiet_below (by kernel_rfl) (by kernel_rfl) ?_
  repeat (go_big_quiet_step (first
    | (go_at_call 9; exact Calls.regrown_of ((spec_recBytes_any r _ hrm).mono (fun e w' h => by rw [show strV r.bytes = .string T from congrArg Value.string HT.out.symm] at h; exact h)))
    | (go_at_call 10; exact Calls.regrown_of ((spec_recRead_any t _ ht).mono (fun e w' h => by rw [← HO.out] at h; exact h)))
    | (go_at_call 11; exact Calls.regrown_of (impl_recRight_any r _ hrm))
    | (go_at_call 12; exact Calls.regrown_of (spec_recRight_any r _ hrm))))
  refine wpQuiet_nil ?_
  intro w2 hw'
  have hb2 : Below V.heap.size V w2 := by obtain ⟨⟨dq, osq⟩, rfl⟩ := hw'; exact below_regrown V dq osq
  have HR2 := Lib.hid (HR.out.below hb2 HR.out.lt)
  have HX2 := Lib.hid (HX.out.below hb2 HX.out.lt)
  have HG6 := Lib.hid (HG5.out.below hb2)
  have HB6 := Lib.hid (HB5.out.trans (hb2.mono HB5.out.size))
  clear hw' hb2 k0 k1 k2 k3 k4 k5 z0 z1 z2 z3 z4 z5 z6 k0' k1' k2' k3' k4' k5' z0' z1' z2' z3' z4' z5' z6' HR HX HG5 HB5
  obtain ⟨k0, k1, k2, k3, k4, k5⟩ := rcCells HR2.out
  obtain ⟨⟨z0, z1, z2, z3, z4, z5, z6⟩, -⟩ := routCells HX2.out
  try dsimp only at z0 z1 z2 z3 z4 z5 z6
  have k0' := cell_regrown k0; have k1' := cell_regrown k1; have k2' := cell_regrown k2; have k3' := cell_regrown k3; have k4' := cell_regrown k4; have k5' := cell_regrown k5
  have z0' := cell_regrown z0; have z1' := cell_regrown z1; have z2' := cell_regrown z2; have z3' := cell_regrown z3; have z4' := cell_regrown z4; have z5' := cell_regrown z5; have z6' := cell_regrown z6
  have hosz : od.size ≤ maxLen := by have h := recRead_short t; rw [← HO.out] at h; dsimp only at h; unfold maxLen; omega
  have hTm : T.size ≤ maxLen := by rw [HT.out, bstr_size]; have := bytes_len r; unfold maxLen; omega
  have hT60 : (T.size : Int) ≤ 60 := by rw [HT.out, bstr_size]; have := bytes_len r; omega
  have hback : oc = 0 → bstr (Bt.Rc.bytes ⟨ok, os, oq, ot, oo, od⟩) = t := fun h0 => by
    have h := Bt.recRead_back (t := t) (by rw [← HO.out]; exact h0)
    rw [← HO.out] at h
    rw [h]
    exact bstr_back t
  by_cases hok : r.Ok
  · have hTs : 0 < T.size := by rw [HT.out]; exact bytes_nil hok
    have hTr : Bt.recRead T = (r, 0) := by rw [HT.out]; exact Bt.recRead_bytes hok
    have hTb : T.toList.isEmpty = false := by
      rw [ByteArray.toList_eq, List.isEmpty_eq_false_iff]
      intro h
      have := congrArg List.length h
      exact absurd this (Nat.ne_of_gt hTs)
    clear hok hTs
    by_cases hc : oc = 0
    · subst hc
      replace hback := hback rfl
      go_wp2_with fail
      refine wp_region_quiet_below (by kernel_rfl) (by kernel_rfl) ?_
      repeat (go_big_quiet_step (first
        | (go_at_call 8; exact Calls.regrown_of ((impl_recRead_any T _ hTm (HG6.out.below (below_regrown _ _ _))).mono (fun e w' h => by rw [hTr] at h; exact h)))
        | (go_at_call 6; exact Calls.regrown_of ((impl_recBytes_any ⟨ok, os, oq, ot, oo, od⟩ _ hosz).mono (fun e w' h => by rw [show strV (Bt.Rc.bytes ⟨ok, os, oq, ot, oo, od⟩) = .string t from congrArg Value.string hback] at h; exact h)))))
      refine wpQuiet_nil ?_
      intro w3 hw'
      have hb3 : Below w2.heap.size w2 w3 := by obtain ⟨⟨dq, osq⟩, rfl⟩ := hw'; exact below_regrown w2 dq osq
      have HB7 := Lib.hid (HB6.out.trans (hb3.mono HB6.out.size))
      clear hw' hb3
      go_wp2
      go_ret
      exact ⟨rfl, HB7.out⟩
    have hcb : (oc == 0) = false := beq_eq_false_iff_ne.2 hc
    have hcd : decide (oc = 0) = false := decide_eq_false hc
    have hcn : (oc != 0) = true := by simp [hc]
    go_wp2_with fail
    refine wp_region_quiet_below (by kernel_rfl) (by kernel_rfl) ?_
    repeat (go_big_quiet_step (first
      | (go_at_call 8; exact Calls.regrown_of ((impl_recRead_any T _ hTm (HG6.out.below (below_regrown _ _ _))).mono (fun e w' h => by rw [hTr] at h; exact h)))
      | (go_at_call 6; exact Calls.regrown_of ((impl_recBytes_any ⟨ok, os, oq, ot, oo, od⟩ _ hosz).mono (fun e w' h => by rw [show strV (Bt.Rc.bytes ⟨ok, os, oq, ot, oo, od⟩) = .string t from congrArg Value.string hback] at h; exact h)))))
    refine wpQuiet_nil ?_
    intro w3 hw'
    have hb3 : Below w2.heap.size w2 w3 := by obtain ⟨⟨dq, osq⟩, rfl⟩ := hw'; exact below_regrown w2 dq osq
    have HB7 := Lib.hid (HB6.out.trans (hb3.mono HB6.out.size))
    clear hw' hb3
    go_wp2
    go_ret
    exact ⟨rfl, HB7.out⟩
  have hTe : T = ⟨#[]⟩ := by rw [HT.out, Bt.Rc.bytes_bad hok]; rfl
  clear HT hok
  subst hTe
  have hTr : True := trivial
  by_cases hc : oc = 0
  · subst hc
    replace hback := hback rfl
    go_wp2_with fail
    refine wp_region_quiet_below (by kernel_rfl) (by kernel_rfl) ?_
    repeat (go_big_quiet_step (first
      | (go_at_call 8; exact Calls.regrown_of ((impl_recRead_any T _ hTm (HG6.out.below (below_regrown _ _ _))).mono (fun e w' h => by rw [hTr] at h; exact h)))
      | (go_at_call 6; exact Calls.regrown_of ((impl_recBytes_any ⟨ok, os, oq, ot, oo, od⟩ _ hosz).mono (fun e w' h => by rw [show strV (Bt.Rc.bytes ⟨ok, os, oq, ot, oo, od⟩) = .string t from congrArg Value.string hback] at h; exact h)))))
    refine wpQuiet_nil ?_
    intro w3 hw'
    have hb3 : Below w2.heap.size w2 w3 := by obtain ⟨⟨dq, osq⟩, rfl⟩ := hw'; exact below_regrown w2 dq osq
    have HB7 := Lib.hid (HB6.out.trans (hb3.mono HB6.out.size))
    clear hw' hb3
    go_wp2
    go_ret
    exact ⟨rfl, HB7.out⟩
  have hcb : (oc == 0) = false := beq_eq_false_iff_ne.2 hc
  have hcd : decide (oc = 0) = false := decide_eq_false hc
  have hcn : (oc != 0) = true := by simp [hc]
  go_wp2_with fail
  refine wp_region_quiet_below (by kernel_rfl) (by kernel_rfl) ?_
  repeat (go_big_quiet_step (first
    | (go_at_call 8; exact Calls.regrown_of ((impl_recRead_any T _ hTm (HG6.out.below (below_regrown _ _ _))).mono (fun e w' h => by rw [hTr] at h; exact h)))
    | (go_at_call 6; exact Calls.regrown_of ((impl_recBytes_any ⟨ok, os, oq, ot, oo, od⟩ _ hosz).mono (fun e w' h => by rw [show strV (Bt.Rc.bytes ⟨ok, os, oq, ot, oo, od⟩) = .string t from congrArg Value.string hback] at h; exact h)))))
  refine wpQuiet_nil ?_
  intro w3 hw'
  have hb3 : Below w2.heap.size w2 w3 := by obtain ⟨⟨dq, osq⟩, rfl⟩ := hw'; exact below_regrown w2 dq osq
  have HB7 := Lib.hid (HB6.out.trans (hb3.mono HB6.out.size))
  clear hw' hb3
  go_wp2
  go_ret
  exact ⟨rfl, HB7.out⟩

set_option maxRecDepth 100000 in
theorem lifted (os : Os) (started : os.Started) (H : Type) (enc : TypeId × Value → H) :
    ReturnsInHanded {} Tryd.checked os 3 .any (fun w args => (Rows.fnRecSpec.pre enc Tryd.prog Tryd.f3 [] false w args ∧ laidMetH Tryd.prog Rows.fnRecRow.laid w) ∧ sizedMet enc Tryd.prog Tryd.f3 (OpenSpec.ofChange Rows.fnRecSpec) false w args)
      (Rows.fnRecSpec.post enc Tryd.prog Tryd.f3 false true false false) := by
  refine returnsInHanded_of_change_and (C := Tryd.checked) (X := fun w _ => laidMetH Tryd.prog Rows.fnRecRow.laid w) (fun _ _ _ hh h => h.of_heap hh) own started (by kernel_rfl) Tryd.func3
    (ChangeSpec.witness_at (enc := enc) (C := Tryd.checked) (os := os) (X := fun w _ => laidMetH Tryd.prog Rows.fnRecRow.laid w) false (laidWorld os) #[.slice none 0 0, .slice none 0 0] 8 rfl (by kernel_rfl) (by kernel_rfl) (by kernel_rfl) (by kernel_rfl) (by kernel_rfl) (laidWorld_met os _)) ?_
  intro W base args ds gs before hval0 hW _ _ hL _
  have hval : ∀ (j : Nat) t v, Tryd.f3.params[j]? = some t → args[j]? = some v → Value.okWide Tryd.prog W .any base t v := hval0
  have hW' := hW
  obtain ⟨p, q, hA0, hV, rfl, hfz, hnd⟩ := hW
  have hA : DataW.TrodAll enc Tryd.prog W 0 (fun _ => true) true Tryd.f3.params.toList args.toList ds p := hA0
  rw [Tryd.params3] at hA hval
  obtain ⟨v0, vs0, d0, ds0, p0, q0, hargs, rfl, rfl, h0, r0⟩ := trodAll_cons hA
  obtain ⟨v1, vs1, d1, ds1, p1, q1, rfl, rfl, rfl, h1, r1⟩ := trodAll_cons r0
  obtain ⟨rfl, rfl, rfl⟩ := trodAll_nil r1
  obtain rfl : args = #[v0, v1] := by cases args; simp_all
  obtain ⟨rfl, rfl⟩ := trodVars_none hV
  have k0 := h0
  have lt0 : ∀ x ∈ p0, x.block < W.heap.size := by obtain ⟨m, hm⟩ := k0; exact DataW.trod_lt m _ _ _ hm
  obtain ⟨A0, n0, c0, rfl, x0, w0⟩ := open_bytesV Tryd.underlying22 Tryd.underlying5 (by kernel_rfl) (hval 0 22 v0 rfl rfl) h0
  have k1 := h1
  have lt1 : ∀ x ∈ p1, x.block < W.heap.size := by obtain ⟨m, hm⟩ := k1; exact DataW.trod_lt m _ _ _ hm
  obtain ⟨A1, n1, c1, rfl, x1, w1⟩ := open_bytesV Tryd.underlying22 Tryd.underlying5 (by kernel_rfl) (hval 1 22 v1 rfl rfl) h1
  clear hA0 hval0
  refine (walk W A0 n0 c0 w0 x0 A1 n1 c1 w1 x1 (handle_of_laid hL)).mono fun e W' ⟨he, hg⟩ => ?_
  subst he
  exact ⟨_, rfl, _, _, _, [], _, [], hW', trodAll_mk1 (shut_bool Tryd.underlying4 _), (trodAll_cons_mk (Below.trod laidOut (by kernel_rfl) (of_decide_eq_true (by kernel_rfl)) k0 hg lt0) (trodAll_cons_mk (Below.trod laidOut (by kernel_rfl) (of_decide_eq_true (by kernel_rfl)) k1 hg lt1) trodAll_mk0)), rfl, hg.frame _, fun h => by cases h⟩

theorem over : Rows.FnRecSaid :=
  OpenClaim.holds_of_wide 3 Tryd.f3 rfl rfl rfl rfl rfl rfl rfl ⟨rfl, rfl, rfl, rfl, rfl⟩ rfl rfl rfl rfl rfl (by kernel_rfl) Tryd.func3 (by kernel_rfl)
    (of_decide_eq_true (by kernel_rfl)) (by unfold Func.isWrapper; rw [if_neg (of_decide_eq_false (by kernel_rfl))]; exact ⟨rfl, rfl⟩)
    (fun os started H enc _ => lifted os started H enc)

theorem proved : Rows.FnRecCardSaid :=
  Claim7.holds_tied_plain_at .later [] [.handle] true (true, "49bf8dad034b94aa2c5db4392250c713fbb1f2d92d678c1335d87092848d183e") true
    over (fun _ h => by cases h) (by kernel_rfl) (fun _ h => by cases h) fnRec_row_tie rfl ⟨rfl, rfl⟩ (by kernel_rfl) rfl
    (fun f fn hf hfn => by
      obtain rfl : f = 3 := Option.some.inj ((show Tryd.prog.funcNamed "loop.example/g00637/laws.FnRec" = some 3 by kernel_rfl).symm.trans hf) |>.symm
      obtain rfl : fn = Tryd.f3 := (Option.some.inj (Tryd.func3.symm.trans hfn)).symm
      exact ⟨by kernel_rfl, fun j t ht => by
        rw [Tryd.params3] at ht
        have h3 : t = 22 := by
          rcases j with _ | _ | j
          all_goals first | (simp at ht; subst ht; simp) | (simp at ht)
        subst h3
        exact (show Tryd.prog.wantsStandIn 22 = false by kernel_rfl)⟩)
    (by kernel_rfl)
#print axioms proved
end Go.Proofs.YtllpmflkcfnknaaDoor.fnRec
