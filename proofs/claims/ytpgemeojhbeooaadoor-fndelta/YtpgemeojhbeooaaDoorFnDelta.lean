/-
  For all strings of bytes code and more, the law FnDelta returns true: the program's functions of chapter 10 answer at the drawn texts and operations as the model's; a text comes back from its delta, a delta from its bytes; accepted bytes are those of their operations; a text of three bytes or more is one copy of itself. The variable errors.errorType holds what package errors lays there.
-/
import Derived.Test.YtpgemeojhbeooaaDoorRows
import Derived.Test.YtpgemeojhbeooaaDoorTie
import Derived.Test.YtpgemeojhbeooaaDoorCards
import Derived.Test.YtpgemeojhbeooaaDoorDlDrawn
import Derived.Test.YtpgemeojhbeooaaDoorDlBack2
import Derived.Test.YtpgemeojhbeooaaDoorDlOfI
import Derived.Test.YtpgemeojhbeooaaDoorDlOfS
import Derived.Test.YtpgemeojhbeooaaDoorDlReadJ
import Derived.Test.YtpgemeojhbeooaaDoorDlReadS
import Derived.Test.YtpgemeojhbeooaaDoorDlGain
import Derived.Test.YtpgemeojhbeooaaDoorDlSpec
import Derived.Test.YtpgemeojhbeooaaDoorDlSpecA
import Derived.Test.YtpgemeojhbeooaaDoorDrOpen
import Derived.Lib.QuietBelow
import Derived.BigQuiet
import Derived.BigRegion
import Derived.Deep.QuietTactic
import Derived.WalkKit
import Derived.ProofKit
import Derived.OpenShut
import Derived.ShutString
import Derived.ChangeOld
import Derived.ChangeSame
import Derived.ChangeVars
import Derived.JoinedOf
import Derived.RowKitTokens
import Derived.LaidLaws
import Derived.LaidHandle
import Derived.Stop.Joined
import Derived.SevenTiedAt
import Derived.Below
namespace Go.Proofs.YtpgemeojhbeooaaDoor.fnDelta
open Go.ChangeShapes Go.WideShapes Go.ChangeAt Go.RowKit
open Go.ChangeMaps (open_string shut_string)
set_option linter.unusedVariables false

theorem own : ownKnob Tryd.prog.godebug = none := by kernel_rfl
theorem et : Tryd.prog.globalNamed "errors.errorType" = some 0 := by kernel_rfl
theorem rt : (Tryd.prog.cutTypes.find? (·.1 == "internal/reflectlite.rtype")).map (·.2) = some 132 := by kernel_rfl
theorem oneRow : ((List.range 173).filter fun t => Tryd.prog.rowNamed t [101, 114, 114, 111, 114]) = [109] := by kernel_rfl
theorem types_size : Tryd.prog.types.size = 173 := by kernel_rfl

theorem handle_of_laid {W : World} (h : laidMetH Tryd.prog Rows.fnDeltaRow.laid W) : ErrType W := by
  have h' : laidMet Tryd.prog [] W ∧ handlesMet Tryd.prog Rows.fnDeltaRow.laid W := h
  obtain ⟨name, u, ty, e1, e2, e3, e4, e5⟩ := h'.2 _ (List.mem_singleton.2 rfl)
  have en : name = [101, 114, 114, 111, 114] := (Option.some.inj e1).symm
  subst en
  obtain rfl := Option.some.inj (rt.symm.trans e2)
  have hm : ty ∈ (List.range 173).filter fun t => Tryd.prog.rowNamed t [101, 114, 114, 111, 114] := List.mem_filter.2 ⟨List.mem_range.2 (by rw [← types_size]; exact e3), e4⟩
  rw [oneRow] at hm
  obtain rfl := List.mem_singleton.1 hm
  have hh : typeHandle Tryd.prog 109 = .pointer (some ⟨1, 109, none⟩) := by kernel_rfl
  rw [hh] at e5
  exact (by simpa using World.var?_cell et e5 0 : W.cell? ⟨0, 0, none⟩ = some (.iface 132 (.agg #[.pointer (some ⟨1, 109, none⟩)])))

noncomputable def laidWorld (os : Os) : World :=
  let w0 := World.holding Tryd.prog os ⟨#[], #[], []⟩
  { w0 with heap := w0.heap.modify 0 fun
      | .cells _ t frozen => .cells #[.iface 132 (.agg #[.pointer (some ⟨1, 109, none⟩)])] t frozen
      | o => o }
theorem laidWorld_met (os : Os) (args : Array Value) : laidMetH Tryd.prog Rows.fnDeltaRow.laid ((laidWorld os).forCall (fun _ _ => 0) ⟨#[], args, []⟩).memory :=
  laidMetH_of_parts (laidMet_nil _ _) (by kernel_rfl)

theorem laidOut : laidOutB Tryd.prog = true := by kernel_rfl
set_option maxHeartbeats 8000000 in
set_option maxRecDepth 100000 in
theorem walk (w : World) (A0 : Option Addr) (n0 c0 : Nat) (w0 : RdBy w w.heap.size A0 n0) (x0 : n0 ≤ maxLen) (A1 : Option Addr) (n1 c1 : Nat) (w1 : RdBy w w.heap.size A1 n1) (x1 : n1 ≤ maxLen) (hg : ErrType w) :
    Calls Tryd.prog 3 #[.slice A0 n0 c0, .slice A1 n1 c1] w fun e w' => e = .returned (.bool true) ∧ Below w.heap.size w w' := by
  have HG := Lib.hid hg; clear hg
  have HW0 := Lib.hid w0; have HW1 := Lib.hid w1; clear w0 w1
  unfold maxLen at x0 x1
  by_cases hbig : 1048576 < n0
  · go_enter Tryd.func3, Tryd.ntmps3
    go_wp2
    go_ret
    exact ⟨rfl, Below.refl _ _⟩
  by_cases hbig1 : 1048576 < n1
  · go_enter Tryd.func3, Tryd.ntmps3
    go_wp2
    go_ret
    exact ⟨rfl, Below.refl _ _⟩
  go_enter Tryd.func3, Tryd.ntmps3
  go_wp2_with fail
  refine (drawDeltaOf_any A0 n0 c0 _ (by omega) HW0.out).mono ?_
  rintro e u1 ⟨b, t, rfl, hb, ht, hb1⟩
  have HB1 := Lib.hid hb1; have HG1 := Lib.hid (HG.out.below hb1); clear hb1
  go_wp2_with fail
  obtain ⟨C, hC⟩ : ∃ C, C = Bt.dOfCode b t := ⟨_, rfl⟩
  obtain ⟨R, hR⟩ : ∃ R, R = Bt.dOfList b t := ⟨_, rfl⟩
  have HT : Hid (C = 0 → Told b t R) := fun h => by rw [hR]; exact told (by rw [← hC]; exact h)
  have hRl : R.length ≤ 40 := by rw [hR]; exact Bt.okL_len (Bt.dOfList_ok b t)
  have HIMPL : Hid (∀ W : World, Calls Tryd.prog 6 #[.string b, .string t] W (RetDO W R C)) := fun W => by rw [hR, hC]; exact impl_deltaOf b t W (by omega) (by omega)
  have HSPEC : Hid (∀ W : World, Calls Tryd.prog 7 #[.string b, .string t] W (RetDO W R C)) := fun W => by rw [hR, hC]; exact spec_deltaOf b t W (by omega) (by omega)
  clear hR hC
  obtain ⟨nR, hnR⟩ : ∃ nR, nR = R.length := ⟨_, rfl⟩
  have HNR := Lib.hid hnR
  have hnl : nR ≤ 40 := by omega
  clear hnR hRl
  refine (HIMPL.out _).mono ?_
  rintro e u2 ⟨Ax, cx, rfl, ho2, hb2⟩
  rw [← HNR.out] at ho2 ⊢
  have HB2 := Lib.hid (HB1.out.trans (hb2.mono HB1.out.size)); have HG2 := Lib.hid (HG1.out.below hb2)
  have HX2 := Lib.hid (ho2.rd (Nat.le_refl _))
  clear hb2 ho2 HB1 HG1
  go_wp2_with fail
  refine (HSPEC.out _).mono ?_
  rintro e u3 ⟨Ay, cy, rfl, ho3, hb3⟩
  rw [← HNR.out] at ho3 ⊢
  have HB3 := Lib.hid (HB2.out.trans (hb3.mono HB2.out.size)); have HG3 := Lib.hid (HG2.out.below hb3)
  have HX3 := Lib.hid (HX2.out.next hb3)
  have HY3 := Lib.hid (ho3.rd (Nat.le_refl _))
  clear hb3 ho3 HB2 HG2 HX2
  go_wp2_with fail
  generalize hV : World.alloc (World.alloc u3 _) _ = v3
  have hv3 : Below u3.heap.size u3 v3 := by rw [← hV]; exact ((Below.refl _ _).alloc (Nat.le_refl _) _).alloc (by simp) _
  have KX3 : Hid (IsBlk v3 u3.heap.size 27 [.slice Ax nR cx, .int .i64 C]) := by rw [← hV]; exact (isBlk_new u3 _ _).alloc _
  have KY3 : Hid (IsBlk v3 (u3.heap.size + 1) 27 [.slice Ay nR cy, .int .i64 C]) := by
    rw [← hV]
    have h := isBlk_new (u3.alloc (.cells #[.slice Ax nR cx, .int .i64 C] 27)) 27 [.slice Ay nR cy, .int .i64 C]
    rw [size_alloc] at h
    exact h
  clear hV
  have HBv := Lib.hid (HB3.out.trans (hv3.mono HB3.out.size)); have HGv := Lib.hid (HG3.out.below hv3)
  have HXv := Lib.hid (HX3.out.next hv3); have HYv := Lib.hid (HY3.out.next hv3)
  clear hv3 HB3 HG3 HX3 HY3
  generalize hgx : u3.heap.size = gx at KX3 KY3 ⊢
  clear hgx
  generalize hgy : gx + 1 = gy at KY3 ⊢
  refine (drawDeltaApply_any A1 n1 c1 _ (by omega) (rdBy_next HW1.out HBv.out)).mono ?_
  rintro e u4 ⟨b2, AL, m, cl, L, rfl, hb2s, hm, hF, hoL, hb4⟩
  have HB4 := Lib.hid (HBv.out.trans (hb4.mono HBv.out.size)); have HG4 := Lib.hid (HGv.out.below hb4)
  have HX4 := Lib.hid (HXv.out.next hb4); have HY4 := Lib.hid (HYv.out.next hb4)
  have KX4 := Lib.hid (KX3.out.below hb4 KX3.out.lt); have KY4 := Lib.hid (KY3.out.below hb4 KY3.out.lt)
  have HL4 := Lib.hid (hoL.rd (Nat.le_refl _)); have HFL := Lib.hid hF
  clear hb4 hoL hF HBv HGv HXv HYv KX3 KY3
  go_wp2_with fail
  refine (drawDeltaRead_any A1 n1 c1 _ (by omega) (rdBy_next HW1.out HB4.out)).mono ?_
  rintro e u5 ⟨u, rfl, hu, hb5⟩
  have HB5 := Lib.hid (HB4.out.trans (hb5.mono HB4.out.size)); have HG5 := Lib.hid (HG4.out.below hb5)
  have HX5 := Lib.hid (HX4.out.next hb5); have HY5 := Lib.hid (HY4.out.next hb5); have HL5 := Lib.hid (HL4.out.next hb5)
  have KX5 := Lib.hid (KX4.out.below hb5 KX4.out.lt); have KY5 := Lib.hid (KY4.out.below hb5 KY4.out.lt)
  clear hb5 HB4 HG4 HX4 HY4 HL4 KX4 KY4
  go_wp2_with fail
  obtain ⟨D, hD⟩ : ∃ D, D = Bt.dReadCode u := ⟨_, rfl⟩
  obtain ⟨S, hS⟩ : ∃ S, S = Bt.dReadList u := ⟨_, rfl⟩
  have HBACK : Hid (D = 0 → Bt.dBytes S = u.data.toList) := fun h => by rw [hS]; exact Bt.dRead_bytes (by rw [← hD]; exact h)
  have hum : u.size ≤ maxLen := by unfold maxLen; omega
  have HFS : Hid ((S.length ≤ 40) ∧ (∀ o ∈ S, o.x.size ≤ 9223372036854775807 ∧ o.f ≤ 9223372036854775807)) := ⟨by rw [hS]; exact Bt.dReadList_most u, fun o ho => Bt.dReadList_fine u o (by rw [← hS]; exact ho)⟩
  have HRI : Hid (∀ W : World, ErrType W → Calls Tryd.prog 10 #[.string u] W (RetDO W S D)) := fun W hg => by rw [hS, hD]; exact impl_deltaRead u W hum hg
  have HRS : Hid (∀ W : World, Calls Tryd.prog 11 #[.string u] W (RetDO W S D)) := fun W => by rw [hS, hD]; exact spec_deltaRead u W hum
  clear hD hS
  obtain ⟨nS, hnS⟩ : ∃ nS, nS = S.length := ⟨_, rfl⟩
  have HNS := Lib.hid hnS
  have hsl : nS ≤ 40 := by have := HFS.out.1; omega
  clear hnS
  refine (HRI.out _ HG5.out).mono ?_
  rintro e u6 ⟨Ar, cr, rfl, ho6, hb6⟩
  rw [← HNS.out] at ho6 ⊢
  have HB6 := Lib.hid (HB5.out.trans (hb6.mono HB5.out.size)); have HG6 := Lib.hid (HG5.out.below hb6)
  have HX6 := Lib.hid (HX5.out.next hb6); have HY6 := Lib.hid (HY5.out.next hb6); have HL6 := Lib.hid (HL5.out.next hb6)
  have HR6 := Lib.hid (ho6.rd (Nat.le_refl _))
  have KX6 := Lib.hid (KX5.out.below hb6 KX5.out.lt); have KY6 := Lib.hid (KY5.out.below hb6 KY5.out.lt)
  clear hb6 ho6 HB5 HG5 HX5 HY5 HL5 KX5 KY5
  go_wp2_with fail
  refine (HRS.out _).mono ?_
  rintro e u7 ⟨Av, cv, rfl, ho7, hb7⟩
  rw [← HNS.out] at ho7 ⊢
  have HB7 := Lib.hid (HB6.out.trans (hb7.mono HB6.out.size)); have HG7 := Lib.hid (HG6.out.below hb7)
  have HX7 := Lib.hid (HX6.out.next hb7); have HY7 := Lib.hid (HY6.out.next hb7); have HL7 := Lib.hid (HL6.out.next hb7)
  have HR7 := Lib.hid (HR6.out.next hb7); have HV7 := Lib.hid (ho7.rd (Nat.le_refl _))
  have KX7 := Lib.hid (KX6.out.below hb7 KX6.out.lt); have KY7 := Lib.hid (KY6.out.below hb7 KY6.out.lt)
  clear hb7 ho7 HB6 HG6 HX6 HY6 HL6 HR6 KX6 KY6
  obtain ⟨px0, px1, -, -⟩ := blk2 KX7.out
  obtain ⟨py0, py1, -, -⟩ := blk2 KY7.out
  have lx := KX7.out.lt
  have ly := KY7.out.lt
  go_wp2_with fail
  clear px0 px1 py0 py1 lx ly
  generalize hV : World.alloc (World.alloc u7 _) _ = u8
  have hb8 : Below u7.heap.size u7 u8 := by rw [← hV]; exact ((Below.refl _ _).alloc (Nat.le_refl _) _).alloc (by simp) _
  have KR8 : Hid (IsBlk u8 u7.heap.size 27 [.slice Ar nS cr, .int .i64 D]) := by rw [← hV]; exact (isBlk_new u7 _ _).alloc _
  have KV8 : Hid (IsBlk u8 (u7.heap.size + 1) 27 [.slice Av nS cv, .int .i64 D]) := by
    rw [← hV]
    have h := isBlk_new (u7.alloc (.cells #[.slice Ar nS cr, .int .i64 D] 27)) 27 [.slice Av nS cv, .int .i64 D]
    rw [size_alloc] at h
    exact h
  clear hV
  have HB8 := Lib.hid (HB7.out.trans (hb8.mono HB7.out.size)); have HG8 := Lib.hid (HG7.out.below hb8)
  have HX8 := Lib.hid (HX7.out.next hb8)
  have HY8 := Lib.hid (HY7.out.next hb8)
  have HL8 := Lib.hid (HL7.out.next hb8)
  have HR8 := Lib.hid (HR7.out.next hb8)
  have HV8 := Lib.hid (HV7.out.next hb8)
  have KX8 := Lib.hid (KX7.out.below hb8 KX7.out.lt)
  have KY8 := Lib.hid (KY7.out.below hb8 KY7.out.lt)
  clear hb8 HB7 HG7 HX7 HY7 HL7 HR7 HV7 KX7 KY7
  generalize hgr : u7.heap.size = gr at KR8 KV8 ⊢
  clear hgr
  generalize hgv : gr + 1 = gv at KV8 ⊢
  clear hgy hgv
  have hLx : Hid (∀ o ∈ L, o.x.size ≤ 9223372036854775807) := fun o h => by have := HFL.out o h; omega
  have hLf : Hid (∀ o ∈ L, o.f ≤ 9223372036854775807) := fun o h => (HFL.out o h).2
  obtain ⟨TA, CA, hTA⟩ : ∃ TA CA, toutV (apList b2 L) 0 (apCode b2 L) = .agg #[.string TA, .int .i64 0, .int .i64 CA] := ⟨_, _, rfl⟩
  have HAI : Hid (∀ W : World, RdDo W W.heap.size AL m L → Calls Tryd.prog 13 #[.string b2, .slice AL m cl] W (fun e w' => e = .returned (.agg #[.string TA, .int .i64 0, .int .i64 CA]) ∧ Below W.heap.size W w')) := fun W h => by rw [← hTA]; exact impl_deltaApply b2 AL m cl L W (by omega) hLx.out (by omega) h
  have HAS : Hid (∀ W : World, RdDo W W.heap.size AL m L → Calls Tryd.prog 14 #[.string b2, .slice AL m cl] W (fun e w' => e = .returned (.agg #[.string TA, .int .i64 0, .int .i64 CA]) ∧ Below W.heap.size W w')) := fun W h => by rw [← hTA]; exact spec_deltaApply b2 AL m cl L W (by omega) hLx.out (by omega) h
  clear hTA
  obtain ⟨BR, hBR⟩ : ∃ BR, BR = Bt.dRight b2 L := ⟨_, rfl⟩
  have HRI2 : Hid (∀ W : World, RdDo W W.heap.size AL m L → Calls Tryd.prog 15 #[.string b2, .slice AL m cl] W (fun e w' => e = .returned (.bool BR) ∧ Below W.heap.size W w')) := fun W h => by rw [hBR]; exact impl_deltaRight b2 AL m cl L W (by omega) hLx.out (by omega) h
  have HRS2 : Hid (∀ W : World, RdDo W W.heap.size AL m L → Calls Tryd.prog 16 #[.string b2, .slice AL m cl] W (fun e w' => e = .returned (.bool BR) ∧ Below W.heap.size W w')) := fun W h => by rw [hBR]; exact spec_deltaRight b2 AL m cl L W (by omega) hLx.out (by omega) h
  clear hBR
  obtain ⟨GN, hGN⟩ : ∃ GN, GN = Bt.dGain b t := ⟨_, rfl⟩
  have HGN : Hid (GN = Bt.dGain b t) := hGN
  have HGI : Hid (∀ W : World, Calls Tryd.prog 17 #[.string b, .string t] W (fun e w' => e = .returned (.int .i64 GN) ∧ Below W.heap.size W w')) := fun W => by rw [hGN]; exact impl_deltaGain b t W (by omega) (by omega)
  have HGS : Hid (∀ W : World, Calls Tryd.prog 18 #[.string b, .string t] W (fun e w' => e = .returned (.int .i64 GN) ∧ Below W.heap.size W w')) := fun W => by rw [hGN]; exact spec_deltaGain b t W (by omega) (by omega)
  clear hGN
  obtain ⟨TB, hTB⟩ : ∃ TB, strV (Bt.dBytes L) = .string TB := ⟨_, rfl⟩
  have HBI : Hid (∀ W : World, RdDo W W.heap.size AL m L → Calls Tryd.prog 19 #[.slice AL m cl] W (fun e w' => e = .returned (.string TB) ∧ Below W.heap.size W w')) := fun W h => by rw [← hTB]; exact impl_deltaBytes AL m cl L W hLx.out hLf.out (by omega) h
  have HBS : Hid (∀ W : World, RdDo W W.heap.size AL m L → Calls Tryd.prog 20 #[.slice AL m cl] W (fun e w' => e = .returned (.string TB) ∧ Below W.heap.size W w')) := fun W h => by rw [← hTB]; exact spec_deltaBytes AL m cl L W hLx.out hLf.out (by omega) h
  clear hTB
  refine (lwOps_same Ax Ay nR cx cy R _ (by omega) HX8.out HY8.out).mono ?_
  rintro e u9 ⟨rfl, hb9⟩
  have HB9 := Lib.hid (HB8.out.trans (hb9.mono HB8.out.size)); have HG9 := Lib.hid (HG8.out.below hb9)
  have HX9 := Lib.hid (HX8.out.next hb9)
  have HY9 := Lib.hid (HY8.out.next hb9)
  have HL9 := Lib.hid (HL8.out.next hb9)
  have HR9 := Lib.hid (HR8.out.next hb9)
  have HV9 := Lib.hid (HV8.out.next hb9)
  have KX9 := Lib.hid (KX8.out.below hb9 KX8.out.lt)
  have KY9 := Lib.hid (KY8.out.below hb9 KY8.out.lt)
  have KR9 := Lib.hid (KR8.out.below hb9 KR8.out.lt)
  have KV9 := Lib.hid (KV8.out.below hb9 KV8.out.lt)
  clear hb9 HB8 HG8 HX8 HY8 HL8 HR8 HV8 KX8 KY8 KR8 KV8
  obtain ⟨px0, px1, -, -⟩ := blk2 KX9.out; have lx := KX9.out.lt
  obtain ⟨py0, py1, -, -⟩ := blk2 KY9.out; have ly := KY9.out.lt
  obtain ⟨pr0, pr1, -, -⟩ := blk2 KR9.out; have lr := KR9.out.lt
  obtain ⟨pv0, pv1, -, -⟩ := blk2 KV9.out; have lv := KV9.out.lt
  go_wp2_with fail
  refine (HAI.out _ HL9.out).mono ?_
  rintro e u10 ⟨rfl, hb10⟩
  have HB10 := Lib.hid (HB9.out.trans (hb10.mono HB9.out.size)); have HG10 := Lib.hid (HG9.out.below hb10)
  have HX10 := Lib.hid (HX9.out.next hb10)
  have HY10 := Lib.hid (HY9.out.next hb10)
  have HL10 := Lib.hid (HL9.out.next hb10)
  have HR10 := Lib.hid (HR9.out.next hb10)
  have HV10 := Lib.hid (HV9.out.next hb10)
  have KX10 := Lib.hid (KX9.out.below hb10 KX9.out.lt)
  have KY10 := Lib.hid (KY9.out.below hb10 KY9.out.lt)
  have KR10 := Lib.hid (KR9.out.below hb10 KR9.out.lt)
  have KV10 := Lib.hid (KV9.out.below hb10 KV9.out.lt)
  clear hb10 HB9 HG9 HX9 HY9 HL9 HR9 HV9 KX9 KY9 KR9 KV9
  clear px0 px1 py0 py1 pr0 pr1 pv0 pv1 lx ly lr lv
  obtain ⟨px0, px1, -, -⟩ := blk2 KX10.out; have lx := KX10.out.lt
  obtain ⟨py0, py1, -, -⟩ := blk2 KY10.out; have ly := KY10.out.lt
  obtain ⟨pr0, pr1, -, -⟩ := blk2 KR10.out; have lr := KR10.out.lt
  obtain ⟨pv0, pv1, -, -⟩ := blk2 KV10.out; have lv := KV10.out.lt
  go_wp2_with fail
  refine (HAS.out _ HL10.out).mono ?_
  rintro e u11 ⟨rfl, hb11⟩
  have HB11 := Lib.hid (HB10.out.trans (hb11.mono HB10.out.size)); have HG11 := Lib.hid (HG10.out.below hb11)
  have HX11 := Lib.hid (HX10.out.next hb11)
  have HY11 := Lib.hid (HY10.out.next hb11)
  have HL11 := Lib.hid (HL10.out.next hb11)
  have HR11 := Lib.hid (HR10.out.next hb11)
  have HV11 := Lib.hid (HV10.out.next hb11)
  have KX11 := Lib.hid (KX10.out.below hb11 KX10.out.lt)
  have KY11 := Lib.hid (KY10.out.below hb11 KY10.out.lt)
  have KR11 := Lib.hid (KR10.out.below hb11 KR10.out.lt)
  have KV11 := Lib.hid (KV10.out.below hb11 KV10.out.lt)
  clear hb11 HB10 HG10 HX10 HY10 HL10 HR10 HV10 KX10 KY10 KR10 KV10
  clear px0 px1 py0 py1 pr0 pr1 pv0 pv1 lx ly lr lv
  obtain ⟨px0, px1, -, -⟩ := blk2 KX11.out; have lx := KX11.out.lt
  obtain ⟨py0, py1, -, -⟩ := blk2 KY11.out; have ly := KY11.out.lt
  obtain ⟨pr0, pr1, -, -⟩ := blk2 KR11.out; have lr := KR11.out.lt
  obtain ⟨pv0, pv1, -, -⟩ := blk2 KV11.out; have lv := KV11.out.lt
  have hne := equalIn_tout TA 0 CA
  have hgu := tout_guard
  go_wp2_with fail
  refine (HRI2.out _ HL11.out).mono ?_
  rintro e u12 ⟨rfl, hb12⟩
  have HB12 := Lib.hid (HB11.out.trans (hb12.mono HB11.out.size)); have HG12 := Lib.hid (HG11.out.below hb12)
  have HX12 := Lib.hid (HX11.out.next hb12)
  have HY12 := Lib.hid (HY11.out.next hb12)
  have HL12 := Lib.hid (HL11.out.next hb12)
  have HR12 := Lib.hid (HR11.out.next hb12)
  have HV12 := Lib.hid (HV11.out.next hb12)
  have KX12 := Lib.hid (KX11.out.below hb12 KX11.out.lt)
  have KY12 := Lib.hid (KY11.out.below hb12 KY11.out.lt)
  have KR12 := Lib.hid (KR11.out.below hb12 KR11.out.lt)
  have KV12 := Lib.hid (KV11.out.below hb12 KV11.out.lt)
  clear hb12 HB11 HG11 HX11 HY11 HL11 HR11 HV11 KX11 KY11 KR11 KV11
  clear px0 px1 py0 py1 pr0 pr1 pv0 pv1 lx ly lr lv
  obtain ⟨px0, px1, -, -⟩ := blk2 KX12.out; have lx := KX12.out.lt
  obtain ⟨py0, py1, -, -⟩ := blk2 KY12.out; have ly := KY12.out.lt
  obtain ⟨pr0, pr1, -, -⟩ := blk2 KR12.out; have lr := KR12.out.lt
  obtain ⟨pv0, pv1, -, -⟩ := blk2 KV12.out; have lv := KV12.out.lt
  clear hne hgu
  go_wp2_with fail
  refine (HRS2.out _ HL12.out).mono ?_
  rintro e u13 ⟨rfl, hb13⟩
  have HB13 := Lib.hid (HB12.out.trans (hb13.mono HB12.out.size)); have HG13 := Lib.hid (HG12.out.below hb13)
  have HX13 := Lib.hid (HX12.out.next hb13)
  have HY13 := Lib.hid (HY12.out.next hb13)
  have HL13 := Lib.hid (HL12.out.next hb13)
  have HR13 := Lib.hid (HR12.out.next hb13)
  have HV13 := Lib.hid (HV12.out.next hb13)
  have KX13 := Lib.hid (KX12.out.below hb13 KX12.out.lt)
  have KY13 := Lib.hid (KY12.out.below hb13 KY12.out.lt)
  have KR13 := Lib.hid (KR12.out.below hb13 KR12.out.lt)
  have KV13 := Lib.hid (KV12.out.below hb13 KV12.out.lt)
  clear hb13 HB12 HG12 HX12 HY12 HL12 HR12 HV12 KX12 KY12 KR12 KV12
  clear px0 px1 py0 py1 pr0 pr1 pv0 pv1 lx ly lr lv
  obtain ⟨px0, px1, -, -⟩ := blk2 KX13.out; have lx := KX13.out.lt
  obtain ⟨py0, py1, -, -⟩ := blk2 KY13.out; have ly := KY13.out.lt
  obtain ⟨pr0, pr1, -, -⟩ := blk2 KR13.out; have lr := KR13.out.lt
  obtain ⟨pv0, pv1, -, -⟩ := blk2 KV13.out; have lv := KV13.out.lt
  go_wp2_with fail
  refine (lwOps_same Ar Av nS cr cv S _ (by omega) HR13.out HV13.out).mono ?_
  rintro e u14 ⟨rfl, hb14⟩
  have HB14 := Lib.hid (HB13.out.trans (hb14.mono HB13.out.size)); have HG14 := Lib.hid (HG13.out.below hb14)
  have HX14 := Lib.hid (HX13.out.next hb14)
  have HY14 := Lib.hid (HY13.out.next hb14)
  have HL14 := Lib.hid (HL13.out.next hb14)
  have HR14 := Lib.hid (HR13.out.next hb14)
  have HV14 := Lib.hid (HV13.out.next hb14)
  have KX14 := Lib.hid (KX13.out.below hb14 KX13.out.lt)
  have KY14 := Lib.hid (KY13.out.below hb14 KY13.out.lt)
  have KR14 := Lib.hid (KR13.out.below hb14 KR13.out.lt)
  have KV14 := Lib.hid (KV13.out.below hb14 KV13.out.lt)
  clear hb14 HB13 HG13 HX13 HY13 HL13 HR13 HV13 KX13 KY13 KR13 KV13
  clear px0 px1 py0 py1 pr0 pr1 pv0 pv1 lx ly lr lv
  obtain ⟨px0, px1, -, -⟩ := blk2 KX14.out; have lx := KX14.out.lt
  obtain ⟨py0, py1, -, -⟩ := blk2 KY14.out; have ly := KY14.out.lt
  obtain ⟨pr0, pr1, -, -⟩ := blk2 KR14.out; have lr := KR14.out.lt
  obtain ⟨pv0, pv1, -, -⟩ := blk2 KV14.out; have lv := KV14.out.lt
  go_wp2_with fail
  refine (HGI.out _).mono ?_
  rintro e u15 ⟨rfl, hb15⟩
  have HB15 := Lib.hid (HB14.out.trans (hb15.mono HB14.out.size)); have HG15 := Lib.hid (HG14.out.below hb15)
  have HX15 := Lib.hid (HX14.out.next hb15)
  have HY15 := Lib.hid (HY14.out.next hb15)
  have HL15 := Lib.hid (HL14.out.next hb15)
  have HR15 := Lib.hid (HR14.out.next hb15)
  have HV15 := Lib.hid (HV14.out.next hb15)
  have KX15 := Lib.hid (KX14.out.below hb15 KX14.out.lt)
  have KY15 := Lib.hid (KY14.out.below hb15 KY14.out.lt)
  have KR15 := Lib.hid (KR14.out.below hb15 KR14.out.lt)
  have KV15 := Lib.hid (KV14.out.below hb15 KV14.out.lt)
  clear hb15 HB14 HG14 HX14 HY14 HL14 HR14 HV14 KX14 KY14 KR14 KV14
  clear px0 px1 py0 py1 pr0 pr1 pv0 pv1 lx ly lr lv
  obtain ⟨px0, px1, -, -⟩ := blk2 KX15.out; have lx := KX15.out.lt
  obtain ⟨py0, py1, -, -⟩ := blk2 KY15.out; have ly := KY15.out.lt
  obtain ⟨pr0, pr1, -, -⟩ := blk2 KR15.out; have lr := KR15.out.lt
  obtain ⟨pv0, pv1, -, -⟩ := blk2 KV15.out; have lv := KV15.out.lt
  go_wp2_with fail
  refine (HGS.out _).mono ?_
  rintro e u16 ⟨rfl, hb16⟩
  have HB16 := Lib.hid (HB15.out.trans (hb16.mono HB15.out.size)); have HG16 := Lib.hid (HG15.out.below hb16)
  have HX16 := Lib.hid (HX15.out.next hb16)
  have HY16 := Lib.hid (HY15.out.next hb16)
  have HL16 := Lib.hid (HL15.out.next hb16)
  have HR16 := Lib.hid (HR15.out.next hb16)
  have HV16 := Lib.hid (HV15.out.next hb16)
  have KX16 := Lib.hid (KX15.out.below hb16 KX15.out.lt)
  have KY16 := Lib.hid (KY15.out.below hb16 KY15.out.lt)
  have KR16 := Lib.hid (KR15.out.below hb16 KR15.out.lt)
  have KV16 := Lib.hid (KV15.out.below hb16 KV15.out.lt)
  clear hb16 HB15 HG15 HX15 HY15 HL15 HR15 HV15 KX15 KY15 KR15 KV15
  clear px0 px1 py0 py1 pr0 pr1 pv0 pv1 lx ly lr lv
  obtain ⟨px0, px1, -, -⟩ := blk2 KX16.out; have lx := KX16.out.lt
  obtain ⟨py0, py1, -, -⟩ := blk2 KY16.out; have ly := KY16.out.lt
  obtain ⟨pr0, pr1, -, -⟩ := blk2 KR16.out; have lr := KR16.out.lt
  obtain ⟨pv0, pv1, -, -⟩ := blk2 KV16.out; have lv := KV16.out.lt
  go_wp2_with fail
  refine (HBI.out _ HL16.out).mono ?_
  rintro e u17 ⟨rfl, hb17⟩
  have HB17 := Lib.hid (HB16.out.trans (hb17.mono HB16.out.size)); have HG17 := Lib.hid (HG16.out.below hb17)
  have HX17 := Lib.hid (HX16.out.next hb17)
  have HY17 := Lib.hid (HY16.out.next hb17)
  have HL17 := Lib.hid (HL16.out.next hb17)
  have HR17 := Lib.hid (HR16.out.next hb17)
  have HV17 := Lib.hid (HV16.out.next hb17)
  have KX17 := Lib.hid (KX16.out.below hb17 KX16.out.lt)
  have KY17 := Lib.hid (KY16.out.below hb17 KY16.out.lt)
  have KR17 := Lib.hid (KR16.out.below hb17 KR16.out.lt)
  have KV17 := Lib.hid (KV16.out.below hb17 KV16.out.lt)
  clear hb17 HB16 HG16 HX16 HY16 HL16 HR16 HV16 KX16 KY16 KR16 KV16
  clear px0 px1 py0 py1 pr0 pr1 pv0 pv1 lx ly lr lv
  obtain ⟨px0, px1, -, -⟩ := blk2 KX17.out; have lx := KX17.out.lt
  obtain ⟨py0, py1, -, -⟩ := blk2 KY17.out; have ly := KY17.out.lt
  obtain ⟨pr0, pr1, -, -⟩ := blk2 KR17.out; have lr := KR17.out.lt
  obtain ⟨pv0, pv1, -, -⟩ := blk2 KV17.out; have lv := KV17.out.lt
  go_wp2_with fail
  refine (HBS.out _ HL17.out).mono ?_
  rintro e u18 ⟨rfl, hb18⟩
  have HB18 := Lib.hid (HB17.out.trans (hb18.mono HB17.out.size)); have HG18 := Lib.hid (HG17.out.below hb18)
  have HX18 := Lib.hid (HX17.out.next hb18)
  have HY18 := Lib.hid (HY17.out.next hb18)
  have HL18 := Lib.hid (HL17.out.next hb18)
  have HR18 := Lib.hid (HR17.out.next hb18)
  have HV18 := Lib.hid (HV17.out.next hb18)
  have KX18 := Lib.hid (KX17.out.below hb18 KX17.out.lt)
  have KY18 := Lib.hid (KY17.out.below hb18 KY17.out.lt)
  have KR18 := Lib.hid (KR17.out.below hb18 KR17.out.lt)
  have KV18 := Lib.hid (KV17.out.below hb18 KV17.out.lt)
  clear hb18 HB17 HG17 HX17 HY17 HL17 HR17 HV17 KX17 KY17 KR17 KV17
  clear px0 px1 py0 py1 pr0 pr1 pv0 pv1 lx ly lr lv
  obtain ⟨px0, px1, -, -⟩ := blk2 KX18.out; have lx := KX18.out.lt
  obtain ⟨py0, py1, -, -⟩ := blk2 KY18.out; have ly := KY18.out.lt
  obtain ⟨pr0, pr1, -, -⟩ := blk2 KR18.out; have lr := KR18.out.lt
  obtain ⟨pv0, pv1, -, -⟩ := blk2 KV18.out; have lv := KV18.out.lt
  by_cases hD0 : D = 0
  case neg =>
    have hdb : (D == 0) = false := beq_eq_false_iff_ne.2 hD0
    have hdd : decide (D = 0) = false := decide_eq_false hD0
    have hdn : (D != 0) = true := by simp [hD0]
    by_cases hC0 : C = 0
    case neg =>
      have hcb : (C == 0) = false := beq_eq_false_iff_ne.2 hC0
      have hcd : decide (C = 0) = false := decide_eq_false hC0
      have hcn : (C != 0) = true := by simp [hC0]
      go_wp2
      go_ret
      exact ⟨rfl, HB18.out⟩
    subst hC0
    have HTD := Lib.hid (HT.out rfl)
    obtain ⟨X, hX⟩ : ∃ X, X = bstr (Bt.dBytes R) := ⟨_, rfl⟩
    have HXL : Hid (X.size = (Bt.dBytes R).length) := by show X.size = _; rw [hX, bstr_size]
    have HXB : Hid (∀ W : World, RdDo W W.heap.size Ax nR R → Calls Tryd.prog 19 #[.slice Ax nR cx] W (fun e w' => e = .returned (.string X) ∧ Below W.heap.size W w')) := fun W h => by rw [hX]; exact impl_deltaBytes Ax nR cx R W (fun o ho => (HTD.out.fine o ho).1) (fun o ho => (HTD.out.fine o ho).2) (by omega) h
    have hX8 : X.size ≤ 8814 := by rw [HXL.out]; exact dBytes_len R
    have HXR : Hid (∀ W : World, ErrType W → Calls Tryd.prog 10 #[.string X] W (RetDO W R 0)) := fun W hg => by have h := impl_deltaRead X W (by unfold maxLen; omega) hg; rw [hX] at h; rw [HTD.out.rdc, HTD.out.rdl] at h; rw [hX]; exact h
    have HXA : Hid (∀ W : World, RdDo W W.heap.size Ax nR R → Calls Tryd.prog 13 #[.string b, .slice Ax nR cx] W (fun e w' => e = .returned (.agg #[.string t, .int .i64 0, .int .i64 0]) ∧ Below W.heap.size W w')) := fun W h => (impl_deltaApply b Ax nR cx R W (by omega) (fun o ho => (HTD.out.fine o ho).1) (by omega) h).mono fun e w' h => by rw [HTD.out.apc, HTD.out.apl] at h; rw [show (Value.agg #[.string t, .int .i64 0, .int .i64 0]) = toutV t.data.toList 0 0 from by unfold toutV strV; simp [bstr]]; exact h
    have HGV : Hid (GN = (t.size : Int) - (X.size : Int)) := by show GN = _; rw [HGN.out, HTD.out.gain, HXL.out]
    clear hX
    go_wp2_with fail
    refine (HXB.out _ HX18.out).mono ?_
    rintro e u19 ⟨rfl, hb19⟩
    have HB19 := Lib.hid (HB18.out.trans (hb19.mono HB18.out.size)); have HG19 := Lib.hid (HG18.out.below hb19)
    have HX19 := Lib.hid (HX18.out.next hb19)
    have HY19 := Lib.hid (HY18.out.next hb19)
    have HL19 := Lib.hid (HL18.out.next hb19)
    have HR19 := Lib.hid (HR18.out.next hb19)
    have HV19 := Lib.hid (HV18.out.next hb19)
    have KX19 := Lib.hid (KX18.out.below hb19 KX18.out.lt)
    have KY19 := Lib.hid (KY18.out.below hb19 KY18.out.lt)
    have KR19 := Lib.hid (KR18.out.below hb19 KR18.out.lt)
    have KV19 := Lib.hid (KV18.out.below hb19 KV18.out.lt)
    clear hb19 HB18 HG18 HX18 HY18 HL18 HR18 HV18 KX18 KY18 KR18 KV18
    clear px0 px1 py0 py1 pr0 pr1 pv0 pv1 lx ly lr lv
    obtain ⟨px0, px1, -, -⟩ := blk2 KX19.out; have lx := KX19.out.lt
    obtain ⟨py0, py1, -, -⟩ := blk2 KY19.out; have ly := KY19.out.lt
    obtain ⟨pr0, pr1, -, -⟩ := blk2 KR19.out; have lr := KR19.out.lt
    obtain ⟨pv0, pv1, -, -⟩ := blk2 KV19.out; have lv := KV19.out.lt
    go_wp2_with fail
    refine (HXR.out _ HG19.out).mono ?_
    rintro e u20 ⟨Az, cz, rfl, hoz, hb20⟩
    rw [← HNR.out] at hoz ⊢
    have HZ20 := Lib.hid (hoz.rd (Nat.le_refl _))
    clear hoz
    have HB20 := Lib.hid (HB19.out.trans (hb20.mono HB19.out.size)); have HG20 := Lib.hid (HG19.out.below hb20)
    have HX20 := Lib.hid (HX19.out.next hb20)
    have HY20 := Lib.hid (HY19.out.next hb20)
    have HL20 := Lib.hid (HL19.out.next hb20)
    have HR20 := Lib.hid (HR19.out.next hb20)
    have HV20 := Lib.hid (HV19.out.next hb20)
    have KX20 := Lib.hid (KX19.out.below hb20 KX19.out.lt)
    have KY20 := Lib.hid (KY19.out.below hb20 KY19.out.lt)
    have KR20 := Lib.hid (KR19.out.below hb20 KR19.out.lt)
    have KV20 := Lib.hid (KV19.out.below hb20 KV19.out.lt)
    clear hb20 HB19 HG19 HX19 HY19 HL19 HR19 HV19 KX19 KY19 KR19 KV19
    clear px0 px1 py0 py1 pr0 pr1 pv0 pv1 lx ly lr lv
    obtain ⟨px0, px1, -, -⟩ := blk2 KX20.out; have lx := KX20.out.lt
    obtain ⟨py0, py1, -, -⟩ := blk2 KY20.out; have ly := KY20.out.lt
    obtain ⟨pr0, pr1, -, -⟩ := blk2 KR20.out; have lr := KR20.out.lt
    obtain ⟨pv0, pv1, -, -⟩ := blk2 KV20.out; have lv := KV20.out.lt
    go_wp2_with fail
    clear px0 px1 py0 py1 pr0 pr1 pv0 pv1 lx ly lr lv
    have KZ21 : Hid (IsBlk _ u20.heap.size 27 [.slice Az nR cz, .int .i64 0]) := isBlk_new u20 _ _
    have hb21 : Below u20.heap.size u20 (u20.alloc (.cells #[.slice Az nR cz, .int .i64 0] 27)) := (Below.refl _ _).alloc (Nat.le_refl _) _
    change Hid (IsBlk (u20.alloc (.cells #[.slice Az nR cz, .int .i64 0] 27)) _ _ _) at KZ21
    generalize World.alloc u20 _ = u21 at hb21 KZ21 ⊢
    have HB21 := Lib.hid (HB20.out.trans (hb21.mono HB20.out.size)); have HG21 := Lib.hid (HG20.out.below hb21)
    have HX21 := Lib.hid (HX20.out.next hb21)
    have HY21 := Lib.hid (HY20.out.next hb21)
    have HL21 := Lib.hid (HL20.out.next hb21)
    have HR21 := Lib.hid (HR20.out.next hb21)
    have HV21 := Lib.hid (HV20.out.next hb21)
    have HZ21 := Lib.hid (HZ20.out.next hb21)
    have KX21 := Lib.hid (KX20.out.below hb21 KX20.out.lt)
    have KY21 := Lib.hid (KY20.out.below hb21 KY20.out.lt)
    have KR21 := Lib.hid (KR20.out.below hb21 KR20.out.lt)
    have KV21 := Lib.hid (KV20.out.below hb21 KV20.out.lt)
    clear hb21 HB20 HG20 HX20 HY20 HL20 HR20 HV20 HZ20 KX20 KY20 KR20 KV20
    obtain ⟨px0, px1, -, -⟩ := blk2 KX21.out; have lx := KX21.out.lt
    obtain ⟨py0, py1, -, -⟩ := blk2 KY21.out; have ly := KY21.out.lt
    obtain ⟨pr0, pr1, -, -⟩ := blk2 KR21.out; have lr := KR21.out.lt
    obtain ⟨pv0, pv1, -, -⟩ := blk2 KV21.out; have lv := KV21.out.lt
    obtain ⟨pz0, pz1, -, -⟩ := blk2 KZ21.out; have lz := KZ21.out.lt
    refine (HXA.out _ HX21.out).mono ?_
    rintro e u22 ⟨rfl, hb22⟩
    have HB22 := Lib.hid (HB21.out.trans (hb22.mono HB21.out.size)); have HG22 := Lib.hid (HG21.out.below hb22)
    have HX22 := Lib.hid (HX21.out.next hb22)
    have HY22 := Lib.hid (HY21.out.next hb22)
    have HL22 := Lib.hid (HL21.out.next hb22)
    have HR22 := Lib.hid (HR21.out.next hb22)
    have HV22 := Lib.hid (HV21.out.next hb22)
    have HZ22 := Lib.hid (HZ21.out.next hb22)
    have KX22 := Lib.hid (KX21.out.below hb22 KX21.out.lt)
    have KY22 := Lib.hid (KY21.out.below hb22 KY21.out.lt)
    have KR22 := Lib.hid (KR21.out.below hb22 KR21.out.lt)
    have KV22 := Lib.hid (KV21.out.below hb22 KV21.out.lt)
    have KZ22 := Lib.hid (KZ21.out.below hb22 KZ21.out.lt)
    clear hb22 HB21 HG21 HX21 HY21 HL21 HR21 HV21 HZ21 KX21 KY21 KR21 KV21 KZ21
    clear px0 px1 py0 py1 pr0 pr1 pv0 pv1 lx ly lr lv pz0 pz1 lz
    obtain ⟨px0, px1, -, -⟩ := blk2 KX22.out; have lx := KX22.out.lt
    obtain ⟨py0, py1, -, -⟩ := blk2 KY22.out; have ly := KY22.out.lt
    obtain ⟨pr0, pr1, -, -⟩ := blk2 KR22.out; have lr := KR22.out.lt
    obtain ⟨pv0, pv1, -, -⟩ := blk2 KV22.out; have lv := KV22.out.lt
    obtain ⟨pz0, pz1, -, -⟩ := blk2 KZ22.out; have lz := KZ22.out.lt
    have hne := equalIn_tout t 0 0
    have hgu := tout_guard
    go_wp2_with fail
    refine (lwOps_same Az Ax nR cz cx R _ (by omega) HZ22.out HX22.out).mono ?_
    rintro e u23 ⟨rfl, hb23⟩
    have HB23 := Lib.hid (HB22.out.trans (hb23.mono HB22.out.size)); have HG23 := Lib.hid (HG22.out.below hb23)
    have HX23 := Lib.hid (HX22.out.next hb23)
    have HY23 := Lib.hid (HY22.out.next hb23)
    have HL23 := Lib.hid (HL22.out.next hb23)
    have HR23 := Lib.hid (HR22.out.next hb23)
    have HV23 := Lib.hid (HV22.out.next hb23)
    have HZ23 := Lib.hid (HZ22.out.next hb23)
    have KX23 := Lib.hid (KX22.out.below hb23 KX22.out.lt)
    have KY23 := Lib.hid (KY22.out.below hb23 KY22.out.lt)
    have KR23 := Lib.hid (KR22.out.below hb23 KR22.out.lt)
    have KV23 := Lib.hid (KV22.out.below hb23 KV22.out.lt)
    have KZ23 := Lib.hid (KZ22.out.below hb23 KZ22.out.lt)
    clear hb23 HB22 HG22 HX22 HY22 HL22 HR22 HV22 HZ22 KX22 KY22 KR22 KV22 KZ22
    clear px0 px1 py0 py1 pr0 pr1 pv0 pv1 lx ly lr lv pz0 pz1 lz
    obtain ⟨px0, px1, -, -⟩ := blk2 KX23.out; have lx := KX23.out.lt
    obtain ⟨py0, py1, -, -⟩ := blk2 KY23.out; have ly := KY23.out.lt
    obtain ⟨pr0, pr1, -, -⟩ := blk2 KR23.out; have lr := KR23.out.lt
    obtain ⟨pv0, pv1, -, -⟩ := blk2 KV23.out; have lv := KV23.out.lt
    obtain ⟨pz0, pz1, -, -⟩ := blk2 KZ23.out; have lz := KZ23.out.lt
    clear hne hgu
    go_wp2_with fail
    refine (HGI.out _).mono ?_
    rintro e u24 ⟨rfl, hb24⟩
    have HB24 := Lib.hid (HB23.out.trans (hb24.mono HB23.out.size)); have HG24 := Lib.hid (HG23.out.below hb24)
    have HX24 := Lib.hid (HX23.out.next hb24)
    have HY24 := Lib.hid (HY23.out.next hb24)
    have HL24 := Lib.hid (HL23.out.next hb24)
    have HR24 := Lib.hid (HR23.out.next hb24)
    have HV24 := Lib.hid (HV23.out.next hb24)
    have HZ24 := Lib.hid (HZ23.out.next hb24)
    have KX24 := Lib.hid (KX23.out.below hb24 KX23.out.lt)
    have KY24 := Lib.hid (KY23.out.below hb24 KY23.out.lt)
    have KR24 := Lib.hid (KR23.out.below hb24 KR23.out.lt)
    have KV24 := Lib.hid (KV23.out.below hb24 KV23.out.lt)
    have KZ24 := Lib.hid (KZ23.out.below hb24 KZ23.out.lt)
    clear hb24 HB23 HG23 HX23 HY23 HL23 HR23 HV23 HZ23 KX23 KY23 KR23 KV23 KZ23
    clear px0 px1 py0 py1 pr0 pr1 pv0 pv1 lx ly lr lv pz0 pz1 lz
    obtain ⟨px0, px1, -, -⟩ := blk2 KX24.out; have lx := KX24.out.lt
    obtain ⟨py0, py1, -, -⟩ := blk2 KY24.out; have ly := KY24.out.lt
    obtain ⟨pr0, pr1, -, -⟩ := blk2 KR24.out; have lr := KR24.out.lt
    obtain ⟨pv0, pv1, -, -⟩ := blk2 KV24.out; have lv := KV24.out.lt
    obtain ⟨pz0, pz1, -, -⟩ := blk2 KZ24.out; have lz := KZ24.out.lt
    have hgv : GN = (t.size : Int) - (X.size : Int) := HGV.out
    by_cases h3 : b.size < 3
    case pos =>
      go_wp2
      go_ret
      exact ⟨rfl, HB24.out⟩
    obtain ⟨hs0, hs1⟩ := HTD.out.self (by omega)
    have HSELF : Hid (∀ W : World, Calls Tryd.prog 6 #[.string b, .string b] W (RetDO W [⟨0, (b.size : Int), ⟨#[]⟩⟩] 0)) := fun W => by have h := impl_deltaOf b b W (by omega) (by omega); rw [hs0, hs1] at h; exact h
    clear hs0 hs1
    go_wp2_with fail
    refine (HSELF.out _).mono ?_
    rintro e u25 ⟨As, cs, rfl, hos, hb25⟩
    have HS25 := Lib.hid (hos.rd (Nat.le_refl _))
    have HB25 := Lib.hid (HB24.out.trans (hb25.mono HB24.out.size))
    clear hos hb25 px0 px1 py0 py1 pr0 pr1 pv0 pv1 pz0 pz1 lx ly lr lv lz
    have hfo := field_ops (.slice As 1 cs) 0 u25
    go_wp2_with fail
    have hbl : Below u25.heap.size u25 (u25.alloc (.cells #[.int .i64 0, .int .i64 (b.size : Int), .string ⟨#[]⟩] 41)) := (Below.refl _ _).alloc (Nat.le_refl _) _
    refine (lwOps_same As (some ⟨u25.heap.size, 0, none⟩) 1 cs 1 [⟨0, (b.size : Int), ⟨#[]⟩⟩] _ (by omega) (HS25.out.next hbl) (rdLit u25 ⟨0, (b.size : Int), ⟨#[]⟩⟩)).mono ?_
    rintro e u26 ⟨rfl, hb26⟩
    have HB26 := Lib.hid (HB25.out.trans ((hbl.mono HB25.out.size).trans (hb26.mono (Nat.le_trans HB25.out.size hbl.size))))
    clear hbl hb26 hfo
    go_wp2
    go_ret
    exact ⟨rfl, HB26.out⟩
  subst hD0
  have HSB : Hid (∀ W : World, RdDo W W.heap.size Ar nS S → Calls Tryd.prog 19 #[.slice Ar nS cr] W (fun e w' => e = .returned (.string u) ∧ Below W.heap.size W w')) := fun W h => (impl_deltaBytes Ar nS cr S W (fun o ho => (HFS.out.2 o ho).1) (fun o ho => (HFS.out.2 o ho).2) (by omega) h).mono fun e w' h => by rw [HBACK.out rfl] at h; rw [show (Value.string u) = strV u.data.toList from by unfold strV; simp [bstr]]; exact h
  go_wp2_with fail
  refine (HSB.out _ HR18.out).mono ?_
  rintro e u19 ⟨rfl, hb19⟩
  have HB19 := Lib.hid (HB18.out.trans (hb19.mono HB18.out.size)); have HG19 := Lib.hid (HG18.out.below hb19)
  have HX19 := Lib.hid (HX18.out.next hb19)
  have HY19 := Lib.hid (HY18.out.next hb19)
  have HL19 := Lib.hid (HL18.out.next hb19)
  have HR19 := Lib.hid (HR18.out.next hb19)
  have HV19 := Lib.hid (HV18.out.next hb19)
  have KX19 := Lib.hid (KX18.out.below hb19 KX18.out.lt)
  have KY19 := Lib.hid (KY18.out.below hb19 KY18.out.lt)
  have KR19 := Lib.hid (KR18.out.below hb19 KR18.out.lt)
  have KV19 := Lib.hid (KV18.out.below hb19 KV18.out.lt)
  clear hb19 HB18 HG18 HX18 HY18 HL18 HR18 HV18 KX18 KY18 KR18 KV18
  clear px0 px1 py0 py1 pr0 pr1 pv0 pv1 lx ly lr lv
  obtain ⟨px0, px1, -, -⟩ := blk2 KX19.out; have lx := KX19.out.lt
  obtain ⟨py0, py1, -, -⟩ := blk2 KY19.out; have ly := KY19.out.lt
  obtain ⟨pr0, pr1, -, -⟩ := blk2 KR19.out; have lr := KR19.out.lt
  obtain ⟨pv0, pv1, -, -⟩ := blk2 KV19.out; have lv := KV19.out.lt
  by_cases hC0 : C = 0
  case neg =>
    have hcb : (C == 0) = false := beq_eq_false_iff_ne.2 hC0
    have hcd : decide (C = 0) = false := decide_eq_false hC0
    have hcn : (C != 0) = true := by simp [hC0]
    go_wp2
    go_ret
    exact ⟨rfl, HB19.out⟩
  subst hC0
  have HTD := Lib.hid (HT.out rfl)
  obtain ⟨X, hX⟩ : ∃ X, X = bstr (Bt.dBytes R) := ⟨_, rfl⟩
  have HXL : Hid (X.size = (Bt.dBytes R).length) := by show X.size = _; rw [hX, bstr_size]
  have HXB : Hid (∀ W : World, RdDo W W.heap.size Ax nR R → Calls Tryd.prog 19 #[.slice Ax nR cx] W (fun e w' => e = .returned (.string X) ∧ Below W.heap.size W w')) := fun W h => by rw [hX]; exact impl_deltaBytes Ax nR cx R W (fun o ho => (HTD.out.fine o ho).1) (fun o ho => (HTD.out.fine o ho).2) (by omega) h
  have hX8 : X.size ≤ 8814 := by rw [HXL.out]; exact dBytes_len R
  have HXR : Hid (∀ W : World, ErrType W → Calls Tryd.prog 10 #[.string X] W (RetDO W R 0)) := fun W hg => by have h := impl_deltaRead X W (by unfold maxLen; omega) hg; rw [hX] at h; rw [HTD.out.rdc, HTD.out.rdl] at h; rw [hX]; exact h
  have HXA : Hid (∀ W : World, RdDo W W.heap.size Ax nR R → Calls Tryd.prog 13 #[.string b, .slice Ax nR cx] W (fun e w' => e = .returned (.agg #[.string t, .int .i64 0, .int .i64 0]) ∧ Below W.heap.size W w')) := fun W h => (impl_deltaApply b Ax nR cx R W (by omega) (fun o ho => (HTD.out.fine o ho).1) (by omega) h).mono fun e w' h => by rw [HTD.out.apc, HTD.out.apl] at h; rw [show (Value.agg #[.string t, .int .i64 0, .int .i64 0]) = toutV t.data.toList 0 0 from by unfold toutV strV; simp [bstr]]; exact h
  have HGV : Hid (GN = (t.size : Int) - (X.size : Int)) := by show GN = _; rw [HGN.out, HTD.out.gain, HXL.out]
  clear hX
  go_wp2_with fail
  refine (HXB.out _ HX19.out).mono ?_
  rintro e u20 ⟨rfl, hb20⟩
  have HB20 := Lib.hid (HB19.out.trans (hb20.mono HB19.out.size)); have HG20 := Lib.hid (HG19.out.below hb20)
  have HX20 := Lib.hid (HX19.out.next hb20)
  have HY20 := Lib.hid (HY19.out.next hb20)
  have HL20 := Lib.hid (HL19.out.next hb20)
  have HR20 := Lib.hid (HR19.out.next hb20)
  have HV20 := Lib.hid (HV19.out.next hb20)
  have KX20 := Lib.hid (KX19.out.below hb20 KX19.out.lt)
  have KY20 := Lib.hid (KY19.out.below hb20 KY19.out.lt)
  have KR20 := Lib.hid (KR19.out.below hb20 KR19.out.lt)
  have KV20 := Lib.hid (KV19.out.below hb20 KV19.out.lt)
  clear hb20 HB19 HG19 HX19 HY19 HL19 HR19 HV19 KX19 KY19 KR19 KV19
  clear px0 px1 py0 py1 pr0 pr1 pv0 pv1 lx ly lr lv
  obtain ⟨px0, px1, -, -⟩ := blk2 KX20.out; have lx := KX20.out.lt
  obtain ⟨py0, py1, -, -⟩ := blk2 KY20.out; have ly := KY20.out.lt
  obtain ⟨pr0, pr1, -, -⟩ := blk2 KR20.out; have lr := KR20.out.lt
  obtain ⟨pv0, pv1, -, -⟩ := blk2 KV20.out; have lv := KV20.out.lt
  go_wp2_with fail
  refine (HXR.out _ HG20.out).mono ?_
  rintro e u21 ⟨Az, cz, rfl, hoz, hb21⟩
  rw [← HNR.out] at hoz ⊢
  have HZ21 := Lib.hid (hoz.rd (Nat.le_refl _))
  clear hoz
  have HB21 := Lib.hid (HB20.out.trans (hb21.mono HB20.out.size)); have HG21 := Lib.hid (HG20.out.below hb21)
  have HX21 := Lib.hid (HX20.out.next hb21)
  have HY21 := Lib.hid (HY20.out.next hb21)
  have HL21 := Lib.hid (HL20.out.next hb21)
  have HR21 := Lib.hid (HR20.out.next hb21)
  have HV21 := Lib.hid (HV20.out.next hb21)
  have KX21 := Lib.hid (KX20.out.below hb21 KX20.out.lt)
  have KY21 := Lib.hid (KY20.out.below hb21 KY20.out.lt)
  have KR21 := Lib.hid (KR20.out.below hb21 KR20.out.lt)
  have KV21 := Lib.hid (KV20.out.below hb21 KV20.out.lt)
  clear hb21 HB20 HG20 HX20 HY20 HL20 HR20 HV20 KX20 KY20 KR20 KV20
  clear px0 px1 py0 py1 pr0 pr1 pv0 pv1 lx ly lr lv
  obtain ⟨px0, px1, -, -⟩ := blk2 KX21.out; have lx := KX21.out.lt
  obtain ⟨py0, py1, -, -⟩ := blk2 KY21.out; have ly := KY21.out.lt
  obtain ⟨pr0, pr1, -, -⟩ := blk2 KR21.out; have lr := KR21.out.lt
  obtain ⟨pv0, pv1, -, -⟩ := blk2 KV21.out; have lv := KV21.out.lt
  go_wp2_with fail
  clear px0 px1 py0 py1 pr0 pr1 pv0 pv1 lx ly lr lv
  have KZ22 : Hid (IsBlk _ u21.heap.size 27 [.slice Az nR cz, .int .i64 0]) := isBlk_new u21 _ _
  have hb22 : Below u21.heap.size u21 (u21.alloc (.cells #[.slice Az nR cz, .int .i64 0] 27)) := (Below.refl _ _).alloc (Nat.le_refl _) _
  change Hid (IsBlk (u21.alloc (.cells #[.slice Az nR cz, .int .i64 0] 27)) _ _ _) at KZ22
  generalize World.alloc u21 _ = u22 at hb22 KZ22 ⊢
  have HB22 := Lib.hid (HB21.out.trans (hb22.mono HB21.out.size)); have HG22 := Lib.hid (HG21.out.below hb22)
  have HX22 := Lib.hid (HX21.out.next hb22)
  have HY22 := Lib.hid (HY21.out.next hb22)
  have HL22 := Lib.hid (HL21.out.next hb22)
  have HR22 := Lib.hid (HR21.out.next hb22)
  have HV22 := Lib.hid (HV21.out.next hb22)
  have HZ22 := Lib.hid (HZ21.out.next hb22)
  have KX22 := Lib.hid (KX21.out.below hb22 KX21.out.lt)
  have KY22 := Lib.hid (KY21.out.below hb22 KY21.out.lt)
  have KR22 := Lib.hid (KR21.out.below hb22 KR21.out.lt)
  have KV22 := Lib.hid (KV21.out.below hb22 KV21.out.lt)
  clear hb22 HB21 HG21 HX21 HY21 HL21 HR21 HV21 HZ21 KX21 KY21 KR21 KV21
  obtain ⟨px0, px1, -, -⟩ := blk2 KX22.out; have lx := KX22.out.lt
  obtain ⟨py0, py1, -, -⟩ := blk2 KY22.out; have ly := KY22.out.lt
  obtain ⟨pr0, pr1, -, -⟩ := blk2 KR22.out; have lr := KR22.out.lt
  obtain ⟨pv0, pv1, -, -⟩ := blk2 KV22.out; have lv := KV22.out.lt
  obtain ⟨pz0, pz1, -, -⟩ := blk2 KZ22.out; have lz := KZ22.out.lt
  refine (HXA.out _ HX22.out).mono ?_
  rintro e u23 ⟨rfl, hb23⟩
  have HB23 := Lib.hid (HB22.out.trans (hb23.mono HB22.out.size)); have HG23 := Lib.hid (HG22.out.below hb23)
  have HX23 := Lib.hid (HX22.out.next hb23)
  have HY23 := Lib.hid (HY22.out.next hb23)
  have HL23 := Lib.hid (HL22.out.next hb23)
  have HR23 := Lib.hid (HR22.out.next hb23)
  have HV23 := Lib.hid (HV22.out.next hb23)
  have HZ23 := Lib.hid (HZ22.out.next hb23)
  have KX23 := Lib.hid (KX22.out.below hb23 KX22.out.lt)
  have KY23 := Lib.hid (KY22.out.below hb23 KY22.out.lt)
  have KR23 := Lib.hid (KR22.out.below hb23 KR22.out.lt)
  have KV23 := Lib.hid (KV22.out.below hb23 KV22.out.lt)
  have KZ23 := Lib.hid (KZ22.out.below hb23 KZ22.out.lt)
  clear hb23 HB22 HG22 HX22 HY22 HL22 HR22 HV22 HZ22 KX22 KY22 KR22 KV22 KZ22
  clear px0 px1 py0 py1 pr0 pr1 pv0 pv1 lx ly lr lv pz0 pz1 lz
  obtain ⟨px0, px1, -, -⟩ := blk2 KX23.out; have lx := KX23.out.lt
  obtain ⟨py0, py1, -, -⟩ := blk2 KY23.out; have ly := KY23.out.lt
  obtain ⟨pr0, pr1, -, -⟩ := blk2 KR23.out; have lr := KR23.out.lt
  obtain ⟨pv0, pv1, -, -⟩ := blk2 KV23.out; have lv := KV23.out.lt
  obtain ⟨pz0, pz1, -, -⟩ := blk2 KZ23.out; have lz := KZ23.out.lt
  have hne := equalIn_tout t 0 0
  have hgu := tout_guard
  go_wp2_with fail
  refine (lwOps_same Az Ax nR cz cx R _ (by omega) HZ23.out HX23.out).mono ?_
  rintro e u24 ⟨rfl, hb24⟩
  have HB24 := Lib.hid (HB23.out.trans (hb24.mono HB23.out.size)); have HG24 := Lib.hid (HG23.out.below hb24)
  have HX24 := Lib.hid (HX23.out.next hb24)
  have HY24 := Lib.hid (HY23.out.next hb24)
  have HL24 := Lib.hid (HL23.out.next hb24)
  have HR24 := Lib.hid (HR23.out.next hb24)
  have HV24 := Lib.hid (HV23.out.next hb24)
  have HZ24 := Lib.hid (HZ23.out.next hb24)
  have KX24 := Lib.hid (KX23.out.below hb24 KX23.out.lt)
  have KY24 := Lib.hid (KY23.out.below hb24 KY23.out.lt)
  have KR24 := Lib.hid (KR23.out.below hb24 KR23.out.lt)
  have KV24 := Lib.hid (KV23.out.below hb24 KV23.out.lt)
  have KZ24 := Lib.hid (KZ23.out.below hb24 KZ23.out.lt)
  clear hb24 HB23 HG23 HX23 HY23 HL23 HR23 HV23 HZ23 KX23 KY23 KR23 KV23 KZ23
  clear px0 px1 py0 py1 pr0 pr1 pv0 pv1 lx ly lr lv pz0 pz1 lz
  obtain ⟨px0, px1, -, -⟩ := blk2 KX24.out; have lx := KX24.out.lt
  obtain ⟨py0, py1, -, -⟩ := blk2 KY24.out; have ly := KY24.out.lt
  obtain ⟨pr0, pr1, -, -⟩ := blk2 KR24.out; have lr := KR24.out.lt
  obtain ⟨pv0, pv1, -, -⟩ := blk2 KV24.out; have lv := KV24.out.lt
  obtain ⟨pz0, pz1, -, -⟩ := blk2 KZ24.out; have lz := KZ24.out.lt
  clear hne hgu
  go_wp2_with fail
  refine (HGI.out _).mono ?_
  rintro e u25 ⟨rfl, hb25⟩
  have HB25 := Lib.hid (HB24.out.trans (hb25.mono HB24.out.size)); have HG25 := Lib.hid (HG24.out.below hb25)
  have HX25 := Lib.hid (HX24.out.next hb25)
  have HY25 := Lib.hid (HY24.out.next hb25)
  have HL25 := Lib.hid (HL24.out.next hb25)
  have HR25 := Lib.hid (HR24.out.next hb25)
  have HV25 := Lib.hid (HV24.out.next hb25)
  have HZ25 := Lib.hid (HZ24.out.next hb25)
  have KX25 := Lib.hid (KX24.out.below hb25 KX24.out.lt)
  have KY25 := Lib.hid (KY24.out.below hb25 KY24.out.lt)
  have KR25 := Lib.hid (KR24.out.below hb25 KR24.out.lt)
  have KV25 := Lib.hid (KV24.out.below hb25 KV24.out.lt)
  have KZ25 := Lib.hid (KZ24.out.below hb25 KZ24.out.lt)
  clear hb25 HB24 HG24 HX24 HY24 HL24 HR24 HV24 HZ24 KX24 KY24 KR24 KV24 KZ24
  clear px0 px1 py0 py1 pr0 pr1 pv0 pv1 lx ly lr lv pz0 pz1 lz
  obtain ⟨px0, px1, -, -⟩ := blk2 KX25.out; have lx := KX25.out.lt
  obtain ⟨py0, py1, -, -⟩ := blk2 KY25.out; have ly := KY25.out.lt
  obtain ⟨pr0, pr1, -, -⟩ := blk2 KR25.out; have lr := KR25.out.lt
  obtain ⟨pv0, pv1, -, -⟩ := blk2 KV25.out; have lv := KV25.out.lt
  obtain ⟨pz0, pz1, -, -⟩ := blk2 KZ25.out; have lz := KZ25.out.lt
  have hgv : GN = (t.size : Int) - (X.size : Int) := HGV.out
  by_cases h3 : b.size < 3
  case pos =>
    go_wp2
    go_ret
    exact ⟨rfl, HB25.out⟩
  obtain ⟨hs0, hs1⟩ := HTD.out.self (by omega)
  have HSELF : Hid (∀ W : World, Calls Tryd.prog 6 #[.string b, .string b] W (RetDO W [⟨0, (b.size : Int), ⟨#[]⟩⟩] 0)) := fun W => by have h := impl_deltaOf b b W (by omega) (by omega); rw [hs0, hs1] at h; exact h
  clear hs0 hs1
  go_wp2_with fail
  refine (HSELF.out _).mono ?_
  rintro e u26 ⟨As, cs, rfl, hos, hb26⟩
  have HS26 := Lib.hid (hos.rd (Nat.le_refl _))
  have HB26 := Lib.hid (HB25.out.trans (hb26.mono HB25.out.size))
  clear hos hb26 px0 px1 py0 py1 pr0 pr1 pv0 pv1 pz0 pz1 lx ly lr lv lz
  have hfo := field_ops (.slice As 1 cs) 0 u26
  go_wp2_with fail
  have hbl : Below u26.heap.size u26 (u26.alloc (.cells #[.int .i64 0, .int .i64 (b.size : Int), .string ⟨#[]⟩] 41)) := (Below.refl _ _).alloc (Nat.le_refl _) _
  refine (lwOps_same As (some ⟨u26.heap.size, 0, none⟩) 1 cs 1 [⟨0, (b.size : Int), ⟨#[]⟩⟩] _ (by omega) (HS26.out.next hbl) (rdLit u26 ⟨0, (b.size : Int), ⟨#[]⟩⟩)).mono ?_
  rintro e u27 ⟨rfl, hb27⟩
  have HB27 := Lib.hid (HB26.out.trans ((hbl.mono HB26.out.size).trans (hb27.mono (Nat.le_trans HB26.out.size hbl.size))))
  clear hbl hb27 hfo
  go_wp2
  go_ret
  exact ⟨rfl, HB27.out⟩

set_option maxRecDepth 100000 in
theorem lifted (os : Os) (started : os.Started) (H : Type) (enc : TypeId × Value → H) :
    ReturnsInHanded {} Tryd.checked os 3 .any (fun w args => (Rows.fnDeltaSpec.pre enc Tryd.prog Tryd.f3 [] false w args ∧ laidMetH Tryd.prog Rows.fnDeltaRow.laid w) ∧ sizedMet enc Tryd.prog Tryd.f3 (OpenSpec.ofChange Rows.fnDeltaSpec) false w args)
      (Rows.fnDeltaSpec.post enc Tryd.prog Tryd.f3 false true false false) := by
  refine returnsInHanded_of_change_and (C := Tryd.checked) (X := fun w _ => laidMetH Tryd.prog Rows.fnDeltaRow.laid w) (fun _ _ _ hh h => h.of_heap hh) own started (by kernel_rfl) Tryd.func3
    (ChangeSpec.witness_at (enc := enc) (C := Tryd.checked) (os := os) (X := fun w _ => laidMetH Tryd.prog Rows.fnDeltaRow.laid w) false (laidWorld os) #[.slice none 0 0, .slice none 0 0] 8 rfl (by kernel_rfl) (by kernel_rfl) (by kernel_rfl) (by kernel_rfl) (by kernel_rfl) (laidWorld_met os _)) ?_
  intro W base args ds gs before hval0 hW _ _ hL _
  have hval : ∀ (j : Nat) t v, Tryd.f3.params[j]? = some t → args[j]? = some v → Value.okWide Tryd.prog W .any base t v := hval0
  have hW' := hW
  obtain ⟨p, q, hA0, hV, rfl, hfz, hnd⟩ := hW
  have hA : DataW.TrodAll enc Tryd.prog W 0 (fun _ => true) true Tryd.f3.params.toList args.toList ds p := hA0
  rw [Tryd.params3] at hA hval
  obtain ⟨v0, vs0, d0, ds0, p0, q0, hargs, rfl, rfl, h0, r0⟩ := trodAll_cons hA
  obtain ⟨v1, vs1, d1, ds1, p1, q1, rfl, rfl, rfl, h1, r1⟩ := trodAll_cons r0
  obtain ⟨rfl, rfl, rfl⟩ := trodAll_nil r1
  obtain rfl : args = #[v0, v1] := by cases args; simp_all
  obtain ⟨rfl, rfl⟩ := trodVars_none hV
  have k0 := h0
  have lt0 : ∀ x ∈ p0, x.block < W.heap.size := by obtain ⟨m, hm⟩ := k0; exact DataW.trod_lt m _ _ _ hm
  obtain ⟨A0, n0, c0, rfl, x0, w0⟩ := open_bytesV Tryd.underlying22 Tryd.underlying5 (by kernel_rfl) (hval 0 22 v0 rfl rfl) h0
  have k1 := h1
  have lt1 : ∀ x ∈ p1, x.block < W.heap.size := by obtain ⟨m, hm⟩ := k1; exact DataW.trod_lt m _ _ _ hm
  obtain ⟨A1, n1, c1, rfl, x1, w1⟩ := open_bytesV Tryd.underlying22 Tryd.underlying5 (by kernel_rfl) (hval 1 22 v1 rfl rfl) h1
  clear hA0 hval0
  refine (walk W A0 n0 c0 w0 x0 A1 n1 c1 w1 x1 (handle_of_laid hL)).mono fun e W' ⟨he, hg⟩ => ?_
  subst he
  exact ⟨_, rfl, _, _, _, [], _, [], hW', trodAll_mk1 (shut_bool Tryd.underlying4 _), (trodAll_cons_mk (Below.trod laidOut (by kernel_rfl) (of_decide_eq_true (by kernel_rfl)) k0 hg lt0) (trodAll_cons_mk (Below.trod laidOut (by kernel_rfl) (of_decide_eq_true (by kernel_rfl)) k1 hg lt1) trodAll_mk0)), rfl, hg.frame _, fun h => by cases h⟩

theorem over : Rows.FnDeltaSaid :=
  OpenClaim.holds_of_wide 3 Tryd.f3 rfl rfl rfl rfl rfl rfl rfl ⟨rfl, rfl, rfl, rfl, rfl⟩ rfl rfl rfl rfl rfl (by kernel_rfl) Tryd.func3 (by kernel_rfl)
    (of_decide_eq_true (by kernel_rfl)) (by unfold Func.isWrapper; rw [if_neg (of_decide_eq_false (by kernel_rfl))]; exact ⟨rfl, rfl⟩)
    (fun os started H enc _ => lifted os started H enc)

theorem proved : Rows.FnDeltaCardSaid :=
  Claim7.holds_tied_plain_at .later [] [.handle] true (true, "cf353ee1340f838862fc055fc2c9130aae98fd4e0cab79ff1273ce07b1531461") true
    over (fun _ h => by cases h) (by kernel_rfl) (fun _ h => by cases h) fnDelta_row_tie rfl ⟨rfl, rfl⟩ (by kernel_rfl) rfl
    (fun f fn hf hfn => by
      obtain rfl : f = 3 := Option.some.inj ((show Tryd.prog.funcNamed "loop.example/g00637/laws.FnDelta" = some 3 by kernel_rfl).symm.trans hf) |>.symm
      obtain rfl : fn = Tryd.f3 := (Option.some.inj (Tryd.func3.symm.trans hfn)).symm
      exact ⟨by kernel_rfl, fun j t ht => by
        rw [Tryd.params3] at ht
        have h3 : t = 22 := by
          rcases j with _ | _ | j
          all_goals first | (simp at ht; subst ht; simp) | (simp at ht)
        subst h3
        exact (show Tryd.prog.wantsStandIn 22 = false by kernel_rfl)⟩)
    (by kernel_rfl)
#print axioms proved
end Go.Proofs.YtpgemeojhbeooaaDoor.fnDelta
