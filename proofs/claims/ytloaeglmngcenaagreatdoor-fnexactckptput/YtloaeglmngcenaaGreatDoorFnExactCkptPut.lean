/-
  For all slots, every history and every power, the law FnExactCkptPut returns true: the program's CkptPut answers as the document's, and writes into no argument. The variable errors.errorType holds what package errors lays there.
-/
import Derived.Test.YtloaeglmngcenaaGreatDoorRows
import Derived.Test.YtloaeglmngcenaaGreatDoorTie
import Derived.Test.YtloaeglmngcenaaGreatDoorCards
import Derived.Test.YtloaeglmngcenaaGreatDoorCkSlots
import Derived.Test.YtloaeglmngcenaaGreatDoorMpA3
import Derived.Test.YtloaeglmngcenaaGreatDoorHsLaw
import Derived.Test.YtloaeglmngcenaaGreatDoorMpA1
import Derived.Deep.DeepCutAuto
import Derived.WalkKit
import Derived.ProofKit
import Derived.OpenShut
import Derived.ShutString
import Derived.ChangeOld
import Derived.ChangeSame
import Derived.ChangeVars
import Derived.JoinedOf
import Derived.RowKitTokens
import Derived.LaidLaws
import Derived.LaidHandle
import Derived.Stop.Joined
import Derived.SevenTiedAt
import Derived.Below
namespace Go.Proofs.YtloaeglmngcenaaGreatDoor.fnExactCkptPut
open Go.ChangeShapes Go.WideShapes Go.ChangeAt Go.RowKit
open Go.ChangeMaps (open_string shut_string)
set_option linter.unusedVariables false

theorem own : ownKnob Tryz.prog.godebug = none := by kernel_rfl
theorem et : Tryz.prog.globalNamed "errors.errorType" = some 3 := by kernel_rfl
theorem rt : (Tryz.prog.cutTypes.find? (·.1 == "internal/reflectlite.rtype")).map (·.2) = some 290 := by kernel_rfl
theorem oneRow : ((List.range 414).filter fun t => Tryz.prog.rowNamed t [101, 114, 114, 111, 114]) = [109] := by kernel_rfl
theorem types_size : Tryz.prog.types.size = 414 := by kernel_rfl

theorem handle_of_laid {W : World} (h : laidMetH Tryz.prog Rows.fnExactCkptPutRow.laid W) : ErrType W := by
  have h' : laidMet Tryz.prog [] W ∧ handlesMet Tryz.prog Rows.fnExactCkptPutRow.laid W := h
  obtain ⟨name, u, ty, e1, e2, e3, e4, e5⟩ := h'.2 _ (List.mem_singleton.2 rfl)
  have en : name = [101, 114, 114, 111, 114] := (Option.some.inj e1).symm
  subst en
  obtain rfl := Option.some.inj (rt.symm.trans e2)
  have hm : ty ∈ (List.range 414).filter fun t => Tryz.prog.rowNamed t [101, 114, 114, 111, 114] := List.mem_filter.2 ⟨List.mem_range.2 (by rw [← types_size]; exact e3), e4⟩
  rw [oneRow] at hm
  obtain rfl := List.mem_singleton.1 hm
  have hh : typeHandle Tryz.prog 109 = .pointer (some ⟨4, 109, none⟩) := by kernel_rfl
  rw [hh] at e5
  exact (by simpa using World.var?_cell et e5 0 : W.cell? ⟨3, 0, none⟩ = some (.iface 290 (.agg #[.pointer (some ⟨4, 109, none⟩)])))

noncomputable def laidWorld (os : Os) : World :=
  let w0 := World.holding Tryz.prog os ⟨#[], #[], []⟩
  { w0 with heap := w0.heap.modify 3 fun
      | .cells _ t frozen => .cells #[.iface 290 (.agg #[.pointer (some ⟨4, 109, none⟩)])] t frozen
      | o => o }
theorem laidWorld_met (os : Os) (args : Array Value) : laidMetH Tryz.prog Rows.fnExactCkptPutRow.laid ((laidWorld os).forCall (fun _ _ => 0) ⟨#[], args, []⟩).memory :=
  laidMetH_of_parts (laidMet_nil _ _) (by kernel_rfl)

theorem laidOut : laidOutB Tryz.prog = true := by kernel_rfl
set_option maxHeartbeats 8000000 in
set_option maxRecDepth 100000 in
theorem walk (w : World) (a0 b0 : ByteArray) (w0 : a0.size ≤ maxLen ∧ b0.size ≤ maxLen) (A1 : Option Addr) (n1 c1 : Nat) (X1 : List Bt.Rc) (w1 : RdRc w w.heap.size A1 n1 X1) (x1 : WideR X1) (a2 : Int) (w2 : (Lit.int .i64 a2).wf = true) (hg : ErrType w) :
    Calls Tryz.prog 6 #[.agg #[.string a0, .string b0], .agg #[.slice A1 n1 c1], .int .i64 a2] w fun e w' => e = .returned (.bool true) ∧ Below w.heap.size w w' := by
  obtain ⟨wa, wb⟩ := w0
  have hp : a2 ≤ 9223372036854775807 := by have h := w2; simp [Lit.wf] at h; omega
  have HG := Lib.hid hg; have HA := Lib.hid w1; have HX := Lib.hid x1; clear hg w1 x1
  have hb0 : Below w.heap.size w ((w.alloc (.cells #[.string a0, .string b0] 82)).alloc (.cells #[.slice A1 n1 c1] 85)) := ((Below.refl _ _).alloc (Nat.le_refl _) _).alloc (by simp) _
  have k0 := (isBlk_new w 82 [.string a0, .string b0]).alloc (.cells #[.slice A1 n1 c1] 85)
  have k1 := isBlk_new (w.alloc (.cells #[.string a0, .string b0] 82)) 85 [.slice A1 n1 c1]
  rw [size_alloc] at k1
  change IsBlk ((w.alloc (.cells #[.string a0, .string b0] 82)).alloc (.cells #[.slice A1 n1 c1] 85)) _ _ _ at k0 k1
  go_enter Tryz.func6, Tryz.ntmps6
  go_wp2_with fail
  generalize (w.alloc (.cells #[.string a0, .string b0] 82)).alloc (.cells #[.slice A1 n1 c1] 85) = U at hb0 k0 k1 ⊢
  have HB0 := Lib.hid hb0
  have hwU := hb0.size
  have hl0 := k0.lt; have hl1 := k1.lt
  have HC0 := Lib.hid (fun (u : World) (h : Below U.heap.size U u) => (k0.below h k0.lt).cell (j := 0) (v := .string a0) rfl)
  have HC1 := Lib.hid (fun (u : World) (h : Below U.heap.size U u) => (k0.below h k0.lt).cell (j := 1) (v := .string b0) rfl)
  have HCH := Lib.hid (fun (u : World) (h : Below U.heap.size U u) => (k1.below h k1.lt).cell (j := 0) (v := .slice A1 n1 c1) rfl)
  have HAR := Lib.hid (fun (u : World) (h : Below U.heap.size U u) => HA.out.next (hb0.trans (h.mono hwU)))
  have HGU := Lib.hid (fun (u : World) (h : Below U.heap.size U u) => HG.out.below (hb0.trans (h.mono hwU)))
  clear hb0 k0 k1 HA HG
  refine (szSlots_any a0 b0 1048576 U (by omega) (by omega) wa wb).mono ?_
  rintro e u1 ⟨rfl, hb1⟩
  have HB1 := Lib.hid hb1
  clear hb1
  by_cases hs : ((a0.size + b0.size : Nat) : Int) ≤ 1048576
  case neg =>
    have hz := szR_no (t := a0.size + b0.size) (left := 1048576) (by omega)
    go_wp2
    go_ret
    exact ⟨rfl, HB0.out.trans (HB1.out.mono hwU)⟩
  have hz := szR_ok hs
  have hnn : 0 ≤ 1048576 - ((a0.size + b0.size : Nat) : Int) := by omega
  have ch := HCH.out _ HB1.out
  rw [hz]
  go_wp2_with fail
  refine (szHist_any A1 n1 c1 X1 (1048576 - ((a0.size + b0.size : Nat) : Int)) u1 hnn (by omega) HX.out (HAR.out _ HB1.out)).mono ?_
  rintro e u2 ⟨rfl, hb2⟩
  have HB2 := Lib.hid (HB1.out.trans (hb2.mono HB1.out.size))
  clear hb2 HB1 ch
  by_cases hs2 : ((szRcs X1 : Nat) : Int) ≤ 1048576 - ((a0.size + b0.size : Nat) : Int)
  case neg =>
    have hz2 := szR_no (t := szRcs X1) (left := 1048576 - ((a0.size + b0.size : Nat) : Int)) (by omega)
    rw [hz2]
    go_wp2
    go_ret
    exact ⟨rfl, HB0.out.trans (HB2.out.mono hwU)⟩
  have hz2 := szR_ok hs2
  have hnn2 : 0 ≤ 1048576 - ((a0.size + b0.size : Nat) : Int) - ((szRcs X1 : Nat) : Int) := by omega
  have HSM := Lib.hid (smallR_of_sz (X := X1) (by omega))
  have hn1 : n1 ≤ 1048576 := by have h1 := HSM.out.1; have h2 := (HAR.out _ HB2.out).1; omega
  have ha : a0.size ≤ 1048576 := by omega
  have hb : b0.size ≤ 1048576 := by omega
  have HSP : Hid (∀ (A : Option Addr) (W : World), RdRc W W.heap.size A n1 X1 → Calls Tryz.prog 54 #[slotsV a0 b0, .agg #[.slice A n1 n1], .int .i64 a2] W fun e w' => e = .returned (slotsV (cpA a0 b0 X1 a2) (cpB a0 b0 X1 a2)) ∧ Below W.heap.size W w') := fun A W h => spec_ckptPut A n1 n1 X1 a0 b0 a2 W ha hb HSM.out h hp
  have HIM : Hid (∀ (A : Option Addr) (W : World), ErrType W → RdRc W W.heap.size A n1 X1 → Calls Tryz.prog 57 #[slotsV a0 b0, .agg #[.slice A n1 n1], .int .i64 a2] W fun e w' => e = .returned (slotsV (cpA a0 b0 X1 a2) (cpB a0 b0 X1 a2)) ∧ Below W.heap.size W w') := fun A W hg h => impl_ckptPut A n1 n1 X1 a0 b0 a2 W ha hb HSM.out (Nat.le_refl _) h hg hp
  generalize cpA a0 b0 X1 a2 = RA at *
  generalize cpB a0 b0 X1 a2 = RB at *
  rw [hz2]
  clear hs hs2 hz hz2
  have HD0 := Lib.hid (fun (u : World) (h : Below u2.heap.size u2 u) => HC0.out u (HB2.out.trans (h.mono HB2.out.size)))
  have HD1 := Lib.hid (fun (u : World) (h : Below u2.heap.size u2 u) => HC1.out u (HB2.out.trans (h.mono HB2.out.size)))
  have HDH := Lib.hid (fun (u : World) (h : Below u2.heap.size u2 u) => HCH.out u (HB2.out.trans (h.mono HB2.out.size)))
  have HDR := Lib.hid (fun (u : World) (h : Below u2.heap.size u2 u) => HAR.out u (HB2.out.trans (h.mono HB2.out.size)))
  have HDG := Lib.hid (fun (u : World) (h : Below u2.heap.size u2 u) => HGU.out u (HB2.out.trans (h.mono HB2.out.size)))
  have HDW := Lib.hid (fun (u : World) (h : Below u2.heap.size u2 u) => HB0.out.trans ((HB2.out.trans (h.mono HB2.out.size)).mono hwU))
  have hw2 : w.heap.size + 1 < u2.heap.size := Nat.lt_of_lt_of_le hl1 HB2.out.size
  clear HC0 HC1 HCH HAR HGU hl0 hl1
  go_wp2_with fail
  go_cut [8] (fun v8 u => ∃ gn, v8 = .pointer (some ⟨gn, 0, none⟩) ∧ u2.heap.size ≤ gn ∧ IsBlk u gn 88 [.string RA, .string RB] ∧ Below u2.heap.size u2 u)
  case first =>
    rename_i J K hJ hK
    refine wp_region_any (by kernel_rfl) (wpAny_inv (CkL8 (fun s8 s21 s22 s23 s24 s25 s26 => { tmps := #[.agg #[.string a0, .string b0], .agg #[.slice A1 n1 c1], .int .i64 a2, .pointer (some ⟨w.heap.size, 0, none⟩), .pointer (some ⟨w.heap.size + 1, 0, none⟩), undef, .bool false, .int .i64 ((1048576 - ((a0.size : Int) + (b0.size : Int))) - ((szRcs X1 : Nat) : Int)), s8, undef, undef, .agg #[.string a0, .string b0], .int .i64 1048576, .int .i64 (1048576 - ((a0.size : Int) + (b0.size : Int))), .int .i64 (1048576 - ((a0.size : Int) + (b0.size : Int))), .bool (decide ((1048576 - ((a0.size : Int) + (b0.size : Int))) < 0)), .agg #[.slice A1 n1 c1], .int .i64 (1048576 - ((a0.size : Int) + (b0.size : Int))), .int .i64 ((1048576 - ((a0.size : Int) + (b0.size : Int))) - ((szRcs X1 : Nat) : Int)), .int .i64 ((1048576 - ((a0.size : Int) + (b0.size : Int))) - ((szRcs X1 : Nat) : Int)), .bool (decide (((1048576 - ((a0.size : Int) + (b0.size : Int))) - ((szRcs X1 : Nat) : Int)) < 0)), s21, s22, s23, s24, s25, s26, undef, undef, undef, undef, undef, undef, undef, undef, undef, undef, undef, undef, undef, undef, undef, undef], defers := [] }) u2 a0 b0 RA RB a2 A1 n1 c1 X1) ?sz ?step ?rend _ _ _ _ (by decide) ?start)
    case sz => intro L x u h; exact h.1
    case start =>
      refine ⟨by simp, fun h => ?_, _, _, _, _, _, _, _, 0, rfl, (Below.refl _ u2).drew, fun h => ?_, fun h => ?_, fun h => ?_, fun h => ?_, fun h => ?_, fun h => ?_, fun h => ?_, fun h => ?_, fun h => ?_⟩
      all_goals (simp only [dn_zero] at h)
    case step =>
      intro L x u hI i o ho hi hL hd
      obtain ⟨hsz, kl, s8, s21, s22, s23, s24, s25, s26, gn, rfl, hB, e0, e1, e2, e3, e4, e5, e6, f6, f7⟩ := hI
      have hcase : i = 0 ∨ i = 1 ∨ i = 2 ∨ i = 3 ∨ i = 4 ∨ i = 5 ∨ i = 6 ∨ i = 7 := by omega
      rcases hcase with rfl | rfl | rfl | rfl | rfl | rfl | rfl | rfl
      · -- operation 0
        refine wpOp_of_list ho (by cases ho; rfl) ?_
        cases ho
        have nl : ¬ Dn L 7 := fun h => Dn.not hi hL (kl h _ (by decide))
        have hc0 := HD0.out u hB
        have hc1 := HD1.out u hB
        go_wp2_with fail
        exact ⟨by simp [hsz], fun h j hj => ((kl ((h.set).resolve_left (by decide))) j hj).stay, _, _, _, _, _, _, _, gn, rfl, hB, fun _ => rfl, fun h => e1 ((h.set).resolve_left (by decide)), fun h => e2 ((h.set).resolve_left (by decide)), fun h _ => e3 ((h.set).resolve_left (by decide)) nl, fun h => e4 ((h.set).resolve_left (by decide)), fun h => e5 ((h.set).resolve_left (by decide)), fun h => e6 ((h.set).resolve_left (by decide)), fun h _ => f6 ((h.set).resolve_left (by decide)) nl, fun h => f7 ((h.set).resolve_left (by decide))⟩
      · -- operation 1
        refine wpOp_of_list ho (by cases ho; rfl) ?_
        cases ho
        have nl : ¬ Dn L 7 := fun h => Dn.not hi hL (kl h _ (by decide))
        obtain rfl := e0 (hd ⟨0, .data⟩ (by simp) rfl)
        go_wp2_with fail
        refine (toSlots_any a0 b0 u).mono ?_
        rintro e w1 ⟨rfl, hb⟩
        go_wp2_with fail
        exact ⟨by simp [hsz], fun h j hj => ((kl ((h.set).resolve_left (by decide))) j hj).stay, _, _, _, _, _, _, _, gn, rfl, hB.trans (hb.mono hB.size), fun _ => rfl, fun _ => rfl, fun h => e2 ((h.set).resolve_left (by decide)), fun h _ => (e3 ((h.set).resolve_left (by decide)) nl).elim fun A' h => ⟨A', h.1, h.2.next hb⟩, fun h => e4 ((h.set).resolve_left (by decide)), fun h => e5 ((h.set).resolve_left (by decide)), fun h => e6 ((h.set).resolve_left (by decide)), fun h _ => (f6 ((h.set).resolve_left (by decide)) nl).below hb (f6 ((h.set).resolve_left (by decide)) nl).lt, fun h => (f7 ((h.set).resolve_left (by decide))).below hb (f7 ((h.set).resolve_left (by decide))).lt⟩
      · -- operation 2
        refine wpOp_of_list ho (by cases ho; rfl) ?_
        cases ho
        have nl : ¬ Dn L 7 := fun h => Dn.not hi hL (kl h _ (by decide))
        have hch := HDH.out u hB
        go_wp2_with fail
        exact ⟨by simp [hsz], fun h j hj => ((kl ((h.set).resolve_left (by decide))) j hj).stay, _, _, _, _, _, _, _, gn, rfl, hB, fun h => e0 ((h.set).resolve_left (by decide)), fun h => e1 ((h.set).resolve_left (by decide)), fun _ => rfl, fun h _ => e3 ((h.set).resolve_left (by decide)) nl, fun h => e4 ((h.set).resolve_left (by decide)), fun h => e5 ((h.set).resolve_left (by decide)), fun h => e6 ((h.set).resolve_left (by decide)), fun h _ => f6 ((h.set).resolve_left (by decide)) nl, fun h => f7 ((h.set).resolve_left (by decide))⟩
      · -- operation 3
        refine wpOp_of_list ho (by cases ho; rfl) ?_
        cases ho
        have nl : ¬ Dn L 7 := fun h => Dn.not hi hL (kl h _ (by decide))
        obtain rfl := e2 (hd ⟨2, .data⟩ (by simp) rfl)
        go_wp2_with fail
        refine (toHist_any A1 n1 c1 X1 u (by omega) (HDR.out u hB)).mono ?_
        rintro e w1 ⟨rfl, ho, hb⟩
        go_wp2_with fail
        exact ⟨by simp [hsz], fun h j hj => ((kl ((h.set).resolve_left (by decide))) j hj).stay, _, _, _, _, _, _, _, gn, rfl, hB.trans (hb.mono hB.size), fun h => e0 ((h.set).resolve_left (by decide)), fun h => e1 ((h.set).resolve_left (by decide)), fun _ => rfl, fun _ _ => ⟨_, rfl, ho.rd (Nat.le_refl _)⟩, fun h => e4 ((h.set).resolve_left (by decide)), fun h => e5 ((h.set).resolve_left (by decide)), fun h => e6 ((h.set).resolve_left (by decide)), fun h _ => (f6 ((h.set).resolve_left (by decide)) nl).below hb (f6 ((h.set).resolve_left (by decide)) nl).lt, fun h => (f7 ((h.set).resolve_left (by decide))).below hb (f7 ((h.set).resolve_left (by decide))).lt⟩
      · -- operation 4
        refine wpOp_of_list ho (by cases ho; rfl) ?_
        cases ho
        have nl : ¬ Dn L 7 := fun h => Dn.not hi hL (kl h _ (by decide))
        go_wp2_with fail
        exact ⟨by simp [hsz], fun h j hj => ((kl ((h.set).resolve_left (by decide))) j hj).stay, _, _, _, _, _, _, _, gn, rfl, hB, fun h => e0 ((h.set).resolve_left (by decide)), fun h => e1 ((h.set).resolve_left (by decide)), fun h => e2 ((h.set).resolve_left (by decide)), fun h _ => e3 ((h.set).resolve_left (by decide)) nl, fun _ => rfl, fun h => e5 ((h.set).resolve_left (by decide)), fun h => e6 ((h.set).resolve_left (by decide)), fun h _ => f6 ((h.set).resolve_left (by decide)) nl, fun h => f7 ((h.set).resolve_left (by decide))⟩
      · -- operation 5
        refine wpOp_of_list ho (by cases ho; rfl) ?_
        cases ho
        have nl : ¬ Dn L 7 := fun h => Dn.not hi hL (kl h _ (by decide))
        obtain rfl := e1 (hd ⟨1, .data⟩ (by simp) rfl)
        obtain ⟨A', rfl, hr⟩ := e3 (hd ⟨3, .data⟩ (by simp) rfl) nl
        obtain rfl := e4 (hd ⟨4, .data⟩ (by simp) rfl)
        go_wp2_with fail
        refine (HSP.out A' u hr).mono ?_
        rintro e w1 ⟨rfl, hb⟩
        go_wp2_with fail
        exact ⟨by simp [hsz], fun h j hj => ((kl ((h.set).resolve_left (by decide))) j hj).stay, _, _, _, _, _, _, _, gn, rfl, hB.trans (hb.mono hB.size), fun h => e0 ((h.set).resolve_left (by decide)), fun _ => rfl, fun h => e2 ((h.set).resolve_left (by decide)), fun _ _ => ⟨A', rfl, hr.next hb⟩, fun _ => rfl, fun _ => rfl, fun h => e6 ((h.set).resolve_left (by decide)), fun h _ => (f6 ((h.set).resolve_left (by decide)) nl).below hb (f6 ((h.set).resolve_left (by decide)) nl).lt, fun h => (f7 ((h.set).resolve_left (by decide))).below hb (f7 ((h.set).resolve_left (by decide))).lt⟩
      · -- operation 6
        refine wpOp_of_list ho (by cases ho; rfl) ?_
        cases ho
        have nl : ¬ Dn L 7 := fun h => Dn.not hi hL (kl h _ (by decide))
        have hb := box_belK u (.cells #[.string ⟨#[]⟩, .string ⟨#[]⟩] 88)
        have hs0 := hB.size
        go_wp2_with fail
        exact ⟨by simp [hsz], fun h j hj => ((kl ((h.set).resolve_left (by decide))) j hj).stay, _, _, _, _, _, _, _, u.heap.size, rfl, hB.trans (hb.mono hB.size), fun h => e0 ((h.set).resolve_left (by decide)), fun h => e1 ((h.set).resolve_left (by decide)), fun h => e2 ((h.set).resolve_left (by decide)), fun h _ => (e3 ((h.set).resolve_left (by decide)) nl).elim fun A' h => ⟨A', h.1, h.2.next hb⟩, fun h => e4 ((h.set).resolve_left (by decide)), fun h => e5 ((h.set).resolve_left (by decide)), fun _ => ⟨rfl, hs0⟩, fun _ _ => isBlk_new u _ _, fun h => absurd ((h.set).resolve_left (by decide)) nl⟩
      · -- operation 7
        refine wpOp_of_list ho (by cases ho; rfl) ?_
        cases ho
        have dall : ∀ j, j < 7 → Dn L j := by
          intro j hj
          have hcj : j = 0 ∨ j = 1 ∨ j = 2 ∨ j = 3 ∨ j = 4 ∨ j = 5 ∨ j = 6 := by omega
          rcases hcj with rfl | rfl | rfl | rfl | rfl | rfl | rfl
          all_goals exact hd ⟨_, .phase⟩ (by simp) rfl
        have nl := Dn.not hi hL
        obtain rfl := e5 (dall 5 (by omega))
        obtain ⟨rfl, hgn⟩ := e6 (dall 6 (by omega))
        have hk := f6 (dall 6 (by omega)) nl
        obtain ⟨p0, p1, fr0, fr1⟩ := blk2 hk
        go_wp2_with fail
        exact ⟨by simp [hsz], fun _ j hj => (dall j hj).stay, _, _, _, _, _, _, _, gn, rfl, (hB.setCell (p := ⟨gn, 0, none⟩) hgn _).setCell (p := ⟨gn, 1, none⟩) hgn _, fun _ => rfl, fun _ => rfl, fun _ => rfl, fun _ h => absurd (Dn.new hi) h, fun _ => rfl, fun _ => rfl, fun _ => ⟨rfl, hgn⟩, fun _ h => absurd (Dn.new hi) h, fun _ => (hk.set (j := 0) _).set (j := 1) _⟩
    case rend =>
      intro L x u hI hr
      obtain ⟨hsz, -, s8, s21, s22, s23, s24, s25, s26, gn, rfl, hB, e0, e1, e2, e3, e4, e5, e6, f6, f7⟩ := hI
      have d0 : Dn L 0 := ready_nil hr hsz (i := 0) rfl (by simp)
      have d1 : Dn L 1 := ready_nil hr hsz (i := 1) rfl (by simp [d0])
      have d2 : Dn L 2 := ready_nil hr hsz (i := 2) rfl (by simp)
      have d3 : Dn L 3 := ready_nil hr hsz (i := 3) rfl (by simp [d2, d1])
      have d4 : Dn L 4 := ready_nil hr hsz (i := 4) rfl (by simp)
      have d5 : Dn L 5 := ready_nil hr hsz (i := 5) rfl (by simp [d1, d3, d4])
      have d6 : Dn L 6 := ready_nil hr hsz (i := 6) rfl (by simp)
      have d7 : Dn L 7 := ready_nil hr hsz (i := 7) rfl (by simp [d0, d1, d2, d3, d4, d5, d6])
      obtain ⟨rfl, hgn⟩ := e6 d6
      refine Met.intro (hK _ _ (Met.intro (hJ _ _ ?_)))
      repeat apply Exists.intro
      refine ⟨?_, rfl⟩
      exact ⟨gn, rfl, hgn, f7 d7, hB⟩
  case rest =>
    obtain ⟨gn, rfl, hgn, hkn, hbn⟩ := hcut
    have hch := HDH.out _ hbn
    go_wp2_with fail
    refine (toHist_any A1 n1 c1 X1 wc (by omega) (HDR.out _ hbn)).mono ?_
    rintro e u3 ⟨rfl, ho3, hb3⟩
    generalize (some ⟨wc.heap.size + 3, 0, none⟩ : Option Addr) = AX at ho3 ⊢
    have hz3 := hb3.size
    have k4 := isBlk_new u3 29 [.slice AX n1 n1]
    have hb4 := box_belK u3 (.cells #[.slice AX n1 n1] 29)
    have hz4 := size_alloc u3 (.cells #[.slice AX n1 n1] 29)
    change IsBlk (u3.alloc (.cells #[.slice AX n1 n1] 29)) _ _ _ at k4
    go_wp2_with fail
    obtain ⟨U2, hU2⟩ : ∃ U2, U2 = u3.alloc (.cells #[.slice AX n1 n1] 29) := ⟨_, rfl⟩
    rw [← hU2] at k4 hb4 hz4 ⊢
    have hbc := bel_thru hb3 hb4
    have hb24 : Below u2.heap.size u2 U2 := hbn.trans (hbc.mono hbn.size)
    have ho4 := ho3.below hb4 (Nat.le_refl _)
    have HKN := Lib.hid (hkn.below hbc hkn.lt)
    have HKX := Lib.hid k4
    have HE0 := Lib.hid (fun (u : World) (h : Below U2.heap.size U2 u) => HD0.out u (hb24.trans (h.mono hb24.size)))
    have HE1 := Lib.hid (fun (u : World) (h : Below U2.heap.size U2 u) => HD1.out u (hb24.trans (h.mono hb24.size)))
    have HEH := Lib.hid (fun (u : World) (h : Below U2.heap.size U2 u) => HDH.out u (hb24.trans (h.mono hb24.size)))
    have HEA := Lib.hid (fun (u : World) (h : Below U2.heap.size U2 u) => HDR.out u (hb24.trans (h.mono hb24.size)))
    have HEG := Lib.hid (fun (u : World) (h : Below U2.heap.size U2 u) => HDG.out u (hb24.trans (h.mono hb24.size)))
    have HEW := Lib.hid (fun (u : World) (h : Below U2.heap.size U2 u) => HDW.out u (hb24.trans (h.mono hb24.size)))
    have HEX := Lib.hid (fun (u : World) (h : Below U2.heap.size U2 u) => (k4.below h k4.lt).cell (j := 0) (v := .slice AX n1 n1) rfl)
    have HER := Lib.hid (fun (u : World) (h : Below U2.heap.size U2 u) => RdRc.next (ho4.rd hb4.size) h)
    have hwU2 : w.heap.size + 1 < U2.heap.size := Nat.lt_of_lt_of_le hw2 hb24.size
    have hlU2 : u3.heap.size < U2.heap.size := k4.lt
    clear hgn hkn hbn hch hb3 ho3 hz3 hz4 k4 hbc hb24 ho4 HD0 HD1 HDH HDR HDG HDW hU2 hb4
    go_cut [10] (fun v10 u => ∃ gg, v10 = .pointer (some ⟨gg, 0, none⟩) ∧ U2.heap.size ≤ gg ∧ IsBlk u gg 88 [.string RA, .string RB] ∧ Below U2.heap.size U2 u)
    case first =>
      rename_i J K hJ hK
      refine wp_region_any (by kernel_rfl) (wpAny_inv (CkL10 (fun s10 s29 s30 s31 s32 s33 => { tmps := #[.agg #[.string a0, .string b0], .agg #[.slice A1 n1 c1], .int .i64 a2, .pointer (some ⟨w.heap.size, 0, none⟩), .pointer (some ⟨w.heap.size + 1, 0, none⟩), undef, .bool false, .int .i64 ((1048576 - ((a0.size : Int) + (b0.size : Int))) - ((szRcs X1 : Nat) : Int)), .pointer (some ⟨gn, 0, none⟩), .pointer (some ⟨u3.heap.size, 0, none⟩), s10, u11, u12, u13, u14, u15, u16, u17, u18, u19, u20, u21, u22, u23, u24, u25, u26, .agg #[.slice A1 n1 c1], .agg #[.slice AX n1 n1], s29, s30, s31, s32, s33, u34, u35, u36, u37, u38, u39, u40, u41, u42], defers := [] }) U2 a0 b0 RA RB a2 AX n1) ?sz ?step ?rend _ _ _ _ (by decide) ?start)
      case sz => intro L x u h; exact h.1
      case start =>
        refine ⟨by simp, fun h => ?_, _, _, _, _, _, _, 0, rfl, (Below.refl _ U2).drew, fun h => ?_, fun h => ?_, fun h => ?_, fun h => ?_, fun h => ?_, fun h => ?_, fun h => ?_, fun h => ?_⟩
        all_goals (simp only [dn_zero] at h)
      case step =>
        intro L x u hI i o ho hi hL hd
        obtain ⟨hsz, kl, s10, s29, s30, s31, s32, s33, gn9, rfl, hB, e0, e1, e2, e3, e4, e5, f5, f6⟩ := hI
        have hcase : i = 0 ∨ i = 1 ∨ i = 2 ∨ i = 3 ∨ i = 4 ∨ i = 5 ∨ i = 6 := by omega
        rcases hcase with rfl | rfl | rfl | rfl | rfl | rfl | rfl
        · -- operation 0
          refine wpOp_of_list ho (by cases ho; rfl) ?_
          cases ho
          have nl : ¬ Dn L 6 := fun h => Dn.not hi hL (kl h _ (by decide))
          have hc0 := HE0.out u hB
          have hc1 := HE1.out u hB
          go_wp2_with fail
          exact ⟨by simp [hsz], fun h j hj => ((kl ((h.set).resolve_left (by decide))) j hj).stay, _, _, _, _, _, _, gn9, rfl, hB, fun _ => rfl, fun h => e1 ((h.set).resolve_left (by decide)), fun h => e2 ((h.set).resolve_left (by decide)), fun h => e3 ((h.set).resolve_left (by decide)), fun h => e4 ((h.set).resolve_left (by decide)), fun h => e5 ((h.set).resolve_left (by decide)), fun h _ => f5 ((h.set).resolve_left (by decide)) nl, fun h => f6 ((h.set).resolve_left (by decide))⟩
        · -- operation 1
          refine wpOp_of_list ho (by cases ho; rfl) ?_
          cases ho
          have nl : ¬ Dn L 6 := fun h => Dn.not hi hL (kl h _ (by decide))
          obtain rfl := e0 (hd ⟨0, .data⟩ (by simp) rfl)
          go_wp2_with fail
          refine (toSlots_any a0 b0 u).mono ?_
          rintro e w1 ⟨rfl, hb⟩
          go_wp2_with fail
          exact ⟨by simp [hsz], fun h j hj => ((kl ((h.set).resolve_left (by decide))) j hj).stay, _, _, _, _, _, _, gn9, rfl, hB.trans (hb.mono hB.size), fun _ => rfl, fun _ => rfl, fun h => e2 ((h.set).resolve_left (by decide)), fun h => e3 ((h.set).resolve_left (by decide)), fun h => e4 ((h.set).resolve_left (by decide)), fun h => e5 ((h.set).resolve_left (by decide)), fun h _ => (f5 ((h.set).resolve_left (by decide)) nl).below hb (f5 ((h.set).resolve_left (by decide)) nl).lt, fun h => (f6 ((h.set).resolve_left (by decide))).below hb (f6 ((h.set).resolve_left (by decide))).lt⟩
        · -- operation 2
          refine wpOp_of_list ho (by cases ho; rfl) ?_
          cases ho
          have nl : ¬ Dn L 6 := fun h => Dn.not hi hL (kl h _ (by decide))
          have hcx := HEX.out u hB
          go_wp2_with fail
          exact ⟨by simp [hsz], fun h j hj => ((kl ((h.set).resolve_left (by decide))) j hj).stay, _, _, _, _, _, _, gn9, rfl, hB, fun h => e0 ((h.set).resolve_left (by decide)), fun h => e1 ((h.set).resolve_left (by decide)), fun _ => rfl, fun h => e3 ((h.set).resolve_left (by decide)), fun h => e4 ((h.set).resolve_left (by decide)), fun h => e5 ((h.set).resolve_left (by decide)), fun h _ => f5 ((h.set).resolve_left (by decide)) nl, fun h => f6 ((h.set).resolve_left (by decide))⟩
        · -- operation 3
          refine wpOp_of_list ho (by cases ho; rfl) ?_
          cases ho
          have nl : ¬ Dn L 6 := fun h => Dn.not hi hL (kl h _ (by decide))
          go_wp2_with fail
          exact ⟨by simp [hsz], fun h j hj => ((kl ((h.set).resolve_left (by decide))) j hj).stay, _, _, _, _, _, _, gn9, rfl, hB, fun h => e0 ((h.set).resolve_left (by decide)), fun h => e1 ((h.set).resolve_left (by decide)), fun h => e2 ((h.set).resolve_left (by decide)), fun _ => rfl, fun h => e4 ((h.set).resolve_left (by decide)), fun h => e5 ((h.set).resolve_left (by decide)), fun h _ => f5 ((h.set).resolve_left (by decide)) nl, fun h => f6 ((h.set).resolve_left (by decide))⟩
        · -- operation 4
          refine wpOp_of_list ho (by cases ho; rfl) ?_
          cases ho
          have nl : ¬ Dn L 6 := fun h => Dn.not hi hL (kl h _ (by decide))
          obtain rfl := e1 (hd ⟨1, .data⟩ (by simp) rfl)
          obtain rfl := e2 (hd ⟨2, .data⟩ (by simp) rfl)
          obtain rfl := e3 (hd ⟨3, .data⟩ (by simp) rfl)
          go_wp2_with fail
          refine (HIM.out _ u (HEG.out u hB) (HER.out u hB)).mono ?_
          rintro e w1 ⟨rfl, hb⟩
          go_wp2_with fail
          exact ⟨by simp [hsz], fun h j hj => ((kl ((h.set).resolve_left (by decide))) j hj).stay, _, _, _, _, _, _, gn9, rfl, hB.trans (hb.mono hB.size), fun h => e0 ((h.set).resolve_left (by decide)), fun _ => rfl, fun _ => rfl, fun _ => rfl, fun _ => rfl, fun h => e5 ((h.set).resolve_left (by decide)), fun h _ => (f5 ((h.set).resolve_left (by decide)) nl).below hb (f5 ((h.set).resolve_left (by decide)) nl).lt, fun h => (f6 ((h.set).resolve_left (by decide))).below hb (f6 ((h.set).resolve_left (by decide))).lt⟩
        · -- operation 5
          refine wpOp_of_list ho (by cases ho; rfl) ?_
          cases ho
          have nl : ¬ Dn L 6 := fun h => Dn.not hi hL (kl h _ (by decide))
          have hb := box_belK u (.cells #[.string ⟨#[]⟩, .string ⟨#[]⟩] 88)
          have hs0 := hB.size
          go_wp2_with fail
          exact ⟨by simp [hsz], fun h j hj => ((kl ((h.set).resolve_left (by decide))) j hj).stay, _, _, _, _, _, _, u.heap.size, rfl, hB.trans (hb.mono hB.size), fun h => e0 ((h.set).resolve_left (by decide)), fun h => e1 ((h.set).resolve_left (by decide)), fun h => e2 ((h.set).resolve_left (by decide)), fun h => e3 ((h.set).resolve_left (by decide)), fun h => e4 ((h.set).resolve_left (by decide)), fun _ => ⟨rfl, hs0⟩, fun _ _ => isBlk_new u _ _, fun h => absurd ((h.set).resolve_left (by decide)) nl⟩
        · -- operation 6
          refine wpOp_of_list ho (by cases ho; rfl) ?_
          cases ho
          have dall : ∀ j, j < 6 → Dn L j := by
            intro j hj
            have hcj : j = 0 ∨ j = 1 ∨ j = 2 ∨ j = 3 ∨ j = 4 ∨ j = 5 := by omega
            rcases hcj with rfl | rfl | rfl | rfl | rfl | rfl
            all_goals exact hd ⟨_, .phase⟩ (by simp) rfl
          have nl := Dn.not hi hL
          obtain rfl := e4 (dall 4 (by omega))
          obtain ⟨rfl, hgn⟩ := e5 (dall 5 (by omega))
          have hk := f5 (dall 5 (by omega)) nl
          obtain ⟨p0, p1, fr0, fr1⟩ := blk2 hk
          go_wp2_with fail
          exact ⟨by simp [hsz], fun _ j hj => (dall j hj).stay, _, _, _, _, _, _, gn9, rfl, (hB.setCell (p := ⟨gn9, 0, none⟩) hgn _).setCell (p := ⟨gn9, 1, none⟩) hgn _, fun _ => rfl, fun _ => rfl, fun _ => rfl, fun _ => rfl, fun _ => rfl, fun _ => ⟨rfl, hgn⟩, fun _ h => absurd (Dn.new hi) h, fun _ => (hk.set (j := 0) _).set (j := 1) _⟩
      case rend =>
        intro L x u hI hr
        obtain ⟨hsz, -, s10, s29, s30, s31, s32, s33, gn9, rfl, hB, e0, e1, e2, e3, e4, e5, f5, f6⟩ := hI
        have d0 : Dn L 0 := ready_nil hr hsz (i := 0) rfl (by simp)
        have d1 : Dn L 1 := ready_nil hr hsz (i := 1) rfl (by simp [d0])
        have d2 : Dn L 2 := ready_nil hr hsz (i := 2) rfl (by simp)
        have d3 : Dn L 3 := ready_nil hr hsz (i := 3) rfl (by simp)
        have d4 : Dn L 4 := ready_nil hr hsz (i := 4) rfl (by simp [d1, d2, d3])
        have d5 : Dn L 5 := ready_nil hr hsz (i := 5) rfl (by simp)
        have d6 : Dn L 6 := ready_nil hr hsz (i := 6) rfl (by simp [d0, d1, d2, d3, d4, d5])
        obtain ⟨rfl, hgn⟩ := e5 d5
        refine Met.intro (hK _ _ (Met.intro (hJ _ _ ?_)))
        repeat apply Exists.intro
        refine ⟨?_, rfl⟩
        exact ⟨_, rfl, hgn, f6 d6, hB⟩
    case rest =>
      obtain ⟨gg, rfl, hgg, hkg, hbg⟩ := hcut
      obtain ⟨p0, p1, -, -⟩ := blk2 hkg
      obtain ⟨q0, q1, -, -⟩ := blk2 (HKN.out.below hbg HKN.out.lt)
      go_wp2_with fail
      refine (eqSlots_same RA RB wc).mono ?_
      rintro e u9 ⟨rfl, hb9⟩
      have hbU := hbg.trans (hb9.mono hbg.size)
      have HB9 := Lib.hid hbU
      have hx9 : u9.cell? ⟨w.heap.size + 1, 0, none⟩ = some (.slice A1 n1 c1) := HEH.out u9 hbU
      have hy9 : u9.cell? ⟨u3.heap.size, 0, none⟩ = some (.slice AX n1 n1) := HEX.out u9 hbU
      have hlx : w.heap.size + 1 < u9.heap.size := Nat.lt_of_lt_of_le hwU2 hbU.size
      have hly : u3.heap.size < u9.heap.size := Nat.lt_of_lt_of_le hlU2 hbU.size
      have HD9 : Hid (Below u9.heap.size u9 u9.drew) := (Below.refl _ _).drew
      have HR9 : Hid (RdRc u9.drew u9.drew.heap.size A1 n1 X1) := (HEA.out u9 hbU).next HD9.out
      have HX9 : Hid (RdRc u9 u9.heap.size AX n1 X1) := HER.out u9 hbU
      clear hb9 hbU hgg hkg hbg p0 p1 q0 q1
      go_wp2
      go_region_held3 (fun w' => w'.cell? ⟨w.heap.size + 1, 0, none⟩ = some (.slice A1 n1 c1) ∧ w'.cell? ⟨u3.heap.size, 0, none⟩ = some (.slice AX n1 n1))
        (first | exact ⟨hx9, hy9⟩ | exact hsa | exact hsb | go_keep)
        (first
          | (go_at_call 56
             refine (toHist_any A1 n1 c1 X1 u9.drew (by omega) HR9.out).mono ?_
             rintro e ua ⟨rfl, hoa, hba⟩
             have hsa : ua.cell? ⟨w.heap.size + 1, 0, none⟩ = some (.slice A1 n1 c1) ∧ ua.cell? ⟨u3.heap.size, 0, none⟩ = some (.slice AX n1 n1) :=
               ⟨(hba.cell (p := ⟨w.heap.size + 1, 0, none⟩) hlx).trans hx9, (hba.cell (p := ⟨u3.heap.size, 0, none⟩) hly).trans hy9⟩
             have HBa := Lib.hid (HD9.out.trans hba)
             have HOa := Lib.hid hoa
             clear hoa hba)
          | (go_at_call 59
             refine (eqHist_same _ _ n1 n1 n1 X1 _ (by omega) (HX9.out.next HBa.out) (HOa.out.rd (Nat.le_refl _))).mono ?_
             rintro e ub ⟨rfl, hbb⟩
             have HBb := Lib.hid (bel_thru HBa.out hbb)
             have hsb : ub.cell? ⟨w.heap.size + 1, 0, none⟩ = some (.slice A1 n1 c1) ∧ ub.cell? ⟨u3.heap.size, 0, none⟩ = some (.slice AX n1 n1) :=
               ⟨(HBb.out.cell (p := ⟨w.heap.size + 1, 0, none⟩) hlx).trans hx9, (HBb.out.cell (p := ⟨u3.heap.size, 0, none⟩) hly).trans hy9⟩
             clear hbb))
      all_goals
        clear hsb hx9 hy9 hlx hly HR9 HX9 HD9
        go_wp2
        go_ret
        exact ⟨rfl, (HEW.out u9 HB9.out).trans (HBb.out.mono (HEW.out u9 HB9.out).size)⟩

set_option maxRecDepth 100000 in
theorem lifted (os : Os) (started : os.Started) (H : Type) (enc : TypeId × Value → H) :
    ReturnsInHanded {} Tryz.checked os 6 .any (fun w args => (Rows.fnExactCkptPutSpec.pre enc Tryz.prog Tryz.f6 [] false w args ∧ laidMetH Tryz.prog Rows.fnExactCkptPutRow.laid w) ∧ sizedMet enc Tryz.prog Tryz.f6 (OpenSpec.ofChange Rows.fnExactCkptPutSpec) false w args)
      (Rows.fnExactCkptPutSpec.post enc Tryz.prog Tryz.f6 false true false false) := by
  refine returnsInHanded_of_change_and (C := Tryz.checked) (X := fun w _ => laidMetH Tryz.prog Rows.fnExactCkptPutRow.laid w) (fun _ _ _ hh h => h.of_heap hh) own started (by kernel_rfl) Tryz.func6
    (ChangeSpec.witness_at (enc := enc) (C := Tryz.checked) (os := os) (X := fun w _ => laidMetH Tryz.prog Rows.fnExactCkptPutRow.laid w) false (laidWorld os) #[.agg #[.string ByteArray.empty, .string ByteArray.empty], .agg #[.slice none 0 0], .int .i64 0] 8 rfl (by kernel_rfl) (by kernel_rfl) (by kernel_rfl) (by kernel_rfl) (by kernel_rfl) (laidWorld_met os _)) ?_
  intro W base args ds gs before hval0 hW _ _ hL _
  have hval : ∀ (j : Nat) t v, Tryz.f6.params[j]? = some t → args[j]? = some v → Value.okWide Tryz.prog W .any base t v := hval0
  have hW' := hW
  obtain ⟨p, q, hA0, hV, rfl, hfz, hnd⟩ := hW
  have hA : DataW.TrodAll enc Tryz.prog W 0 (fun _ => true) true Tryz.f6.params.toList args.toList ds p := hA0
  rw [Tryz.params6] at hA hval
  obtain ⟨v0, vs0, d0, ds0, p0, q0, hargs, rfl, rfl, h0, r0⟩ := trodAll_cons hA
  obtain ⟨v1, vs1, d1, ds1, p1, q1, rfl, rfl, rfl, h1, r1⟩ := trodAll_cons r0
  obtain ⟨v2, vs2, d2, ds2, p2, q2, rfl, rfl, rfl, h2, r2⟩ := trodAll_cons r1
  obtain ⟨rfl, rfl, rfl⟩ := trodAll_nil r2
  obtain rfl : args = #[v0, v1, v2] := by cases args; simp_all
  obtain ⟨rfl, rfl⟩ := trodVars_none hV
  have k0 := h0
  have lt0 : ∀ x ∈ p0, x.block < W.heap.size := by obtain ⟨m, hm⟩ := k0; exact DataW.trod_lt m _ _ _ hm
  obtain ⟨a0, b0, rfl, w0⟩ := open_lawsSlots (hval 0 82 v0 rfl rfl) h0
  have k1 := h1
  have lt1 : ∀ x ∈ p1, x.block < W.heap.size := by obtain ⟨m, hm⟩ := k1; exact DataW.trod_lt m _ _ _ hm
  obtain ⟨A1, n1, c1, X1, rfl, w1, x1⟩ := open_lawsHist (hval 1 85 v1 rfl rfl) h1
  obtain ⟨a2, rfl, rfl, rfl, w2⟩ := open_int Tryz.underlying2 (hval 2 2 v2 rfl rfl) h2
  clear hA0 hval0
  refine (walk W a0 b0 w0 A1 n1 c1 X1 w1 x1 a2 w2 (handle_of_laid hL)).mono fun e W' ⟨he, hg⟩ => ?_
  subst he
  exact ⟨_, rfl, _, _, _, [], _, [], hW', trodAll_mk1 (shut_bool Tryz.underlying4 _), (trodAll_cons_mk (Below.trod laidOut (by kernel_rfl) (of_decide_eq_true (by kernel_rfl)) k0 hg lt0) (trodAll_cons_mk (Below.trod laidOut (by kernel_rfl) (of_decide_eq_true (by kernel_rfl)) k1 hg lt1) (trodAll_cons_mk (shut_int Tryz.underlying2 w2) trodAll_mk0))), rfl, hg.frame _, fun h => by cases h⟩

set_option maxHeartbeats 16000000 in
theorem over : Rows.FnExactCkptPutSaid := by
  refine OpenClaim.holds_of_wide 6 Tryz.f6 rfl rfl rfl rfl rfl rfl rfl ⟨rfl, rfl, rfl, rfl, rfl⟩ rfl rfl rfl rfl rfl (by as_aux_lemma => kernel_rfl) Tryz.func6 ?closed
    (of_decide_eq_true (by as_aux_lemma => kernel_rfl)) (by unfold Func.isWrapper; rw [if_neg (of_decide_eq_false (by as_aux_lemma => kernel_rfl))]; exact ⟨rfl, rfl⟩)
    (fun os started H enc _ => lifted os started H enc)
  case closed =>
    unfold joinedFacts
    simp only [Bool.and_eq_true]
    repeat' apply And.intro
    all_goals (as_aux_lemma => kernel_rfl)

set_option maxHeartbeats 16000000 in
theorem proved : Rows.FnExactCkptPutCardSaid :=
  Claim7.holds_tied_plain_at .later [] [.handle] true (true, "bca1a24a9b25c63b1eb183f4cf1d85e64c4149dfea2737a6d570d6f011a92ab5") true
    over (fun _ h => by cases h) (by as_aux_lemma => kernel_rfl) (fun _ h => by cases h) fnExactCkptPut_row_tie rfl ⟨rfl, rfl⟩ (by as_aux_lemma => kernel_rfl) rfl
    (fun f fn hf hfn => by
      obtain rfl : f = 6 := Option.some.inj ((show Tryz.prog.funcNamed "loop.example/g00637/laws.FnExactCkptPut" = some 6 by kernel_rfl).symm.trans hf) |>.symm
      obtain rfl : fn = Tryz.f6 := (Option.some.inj (Tryz.func6.symm.trans hfn)).symm
      exact ⟨by kernel_rfl, fun j t ht => by
        rw [Tryz.params6] at ht
        have h3 : t = 2 ∨ t = 82 ∨ t = 85 := by
          rcases j with _ | _ | _ | j
          all_goals first | (simp at ht; subst ht; simp) | (simp at ht)
        rcases h3 with rfl | rfl | rfl
        · exact (show Tryz.prog.wantsStandIn 2 = false by kernel_rfl)
        · exact (show Tryz.prog.wantsStandIn 82 = false by kernel_rfl)
        · exact (show Tryz.prog.wantsStandIn 85 = false by kernel_rfl)⟩)
    (by as_aux_lemma => kernel_rfl)
#print axioms proved
end Go.Proofs.YtloaeglmngcenaaGreatDoor.fnExactCkptPut
