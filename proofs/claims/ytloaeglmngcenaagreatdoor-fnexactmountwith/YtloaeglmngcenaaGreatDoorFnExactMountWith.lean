/-
  For every chip n and all slots, the law FnExactMountWith returns true: the program's MountWith answers as the document's, every field; it writes into no argument; its answer owns its memory; and the argument reads afterwards as before. The library's variable errors.errorType and the program's errInvalid, errNoRoom and errNoHistory read as their text lays them (a tied card).
-/
import Derived.Test.YtloaeglmngcenaaGreatDoorRows
import Derived.Test.YtloaeglmngcenaaGreatDoorTie
import Derived.Test.YtloaeglmngcenaaGreatDoorCards
import Derived.Test.YtloaeglmngcenaaGreatDoorLgLaid2
import Derived.Test.YtloaeglmngcenaaGreatDoorNdOpen
import Derived.Test.YtloaeglmngcenaaGreatDoorNdEq
import Derived.Test.YtloaeglmngcenaaGreatDoorNdTo
import Derived.Test.YtloaeglmngcenaaGreatDoorNdSz
import Derived.Test.YtloaeglmngcenaaGreatDoorNdHeld
import Derived.Test.YtloaeglmngcenaaGreatDoorHsMark
import Derived.Test.YtloaeglmngcenaaGreatDoorMpB1
import Derived.Test.YtloaeglmngcenaaGreatDoorMpB3
import Derived.Deep.RegionHeld3
import Derived.Deep.DeepCutAuto
import Derived.WalkKit
import Derived.ProofKit
import Derived.OpenShut
import Derived.ShutString
import Derived.ChangeOld
import Derived.ChangeSame
import Derived.ChangeVars
import Derived.JoinedOf
import Derived.RowKitTokens
import Derived.LaidLaws
import Derived.LaidHandle
import Derived.Stop.Joined
import Derived.SevenTiedAt
import Derived.Below
namespace Go.Proofs.YtloaeglmngcenaaGreatDoor.fnExactMountWith
open Go.ChangeShapes Go.WideShapes Go.ChangeAt Go.RowKit
open Go.ChangeMaps (open_string shut_string)
set_option linter.unusedVariables false

theorem own : ownKnob Tryz.prog.godebug = none := by kernel_rfl
theorem laidOut : laidOutB Tryz.prog = true := by kernel_rfl

noncomputable abbrev laidWorld (os : Os) : World := bothWorld os ⟨#[97, 110, 32, 97, 114, 103, 117, 109, 101, 110, 116, 32, 105, 115, 32, 105, 110, 118, 97, 108, 105, 100]⟩ ⟨#[116, 104, 101, 114, 101, 32, 105, 115, 32, 110, 111, 32, 98, 108, 111, 99, 107, 32, 102, 111, 114, 32, 116, 104, 101, 32, 110, 101, 120, 116, 32, 112, 97, 103, 101]⟩ ⟨#[116, 104, 101, 32, 114, 101, 99, 111, 114, 100, 115, 32, 97, 114, 101, 32, 110, 111, 32, 118, 97, 108, 105, 100, 32, 104, 105, 115, 116, 111, 114, 121]⟩
theorem laidWorld_met (os : Os) (args : Array Value) : laidMetH Tryz.prog Rows.fnExactMountWithRow.laid ((laidWorld os).forCall (fun _ _ => 0) ⟨#[], args, []⟩).memory :=
  laidMetH_of_parts (laidMet_of_run' 8 (by kernel_rfl) (by kernel_rfl)) (by kernel_rfl)

set_option maxHeartbeats 8000000 in
set_option maxRecDepth 100000 in
theorem walk (A0 : Option Addr) (n0 c0 : Nat) (X0 : List Bk) (a1 b1 : ByteArray) (w : World) (w0 : RdBk w w.heap.size A0 n0 X0) (x0 : Wide X0) (w1 : a1.size ≤ maxLen ∧ b1.size ≤ maxLen) (hG : ErrType w) (a0' a1' a2' : Addr) (hS : Sents w a0' a1' a2') :
    Calls Tryz.prog 7 #[.agg #[.slice A0 n0 c0], .agg #[.string a1, .string b1]] w fun e w' => e = .returned (.bool true) ∧ Below w.heap.size w w' := by
  obtain ⟨wa, wb⟩ := w1
  have HA := Lib.hid w0; have HX := Lib.hid x0; have HGe := Lib.hid hG; have HSe := Lib.hid hS; clear w0 x0 hG hS
  have hb0 : Below w.heap.size w ((w.alloc (.cells #[.slice A0 n0 c0] 97)).alloc (.cells #[.string a1, .string b1] 82)) := ((Below.refl _ _).alloc (Nat.le_refl _) _).alloc (by simp) _
  have k0 := (isBlk_new w 97 [.slice A0 n0 c0]).alloc (.cells #[.string a1, .string b1] 82)
  have ks := isBlk_new (w.alloc (.cells #[.slice A0 n0 c0] 97)) 82 [.string a1, .string b1]
  rw [size_alloc] at ks
  change IsBlk ((w.alloc (.cells #[.slice A0 n0 c0] 97)).alloc (.cells #[.string a1, .string b1] 82)) _ _ _ at k0 ks
  go_enter Tryz.func7, Tryz.ntmps7
  go_wp2_with fail
  generalize (w.alloc (.cells #[.slice A0 n0 c0] 97)).alloc (.cells #[.string a1, .string b1] 82) = U0 at hb0 k0 ks ⊢
  have hwU := hb0.size
  have HC0 := Lib.hid (fun (u : World) (h : Below U0.heap.size U0 u) => (ks.below h ks.lt).cell (j := 0) (v := .string a1) rfl)
  have HC1 := Lib.hid (fun (u : World) (h : Below U0.heap.size U0 u) => (ks.below h ks.lt).cell (j := 1) (v := .string b1) rfl)
  have HCN := Lib.hid (fun (u : World) (h : Below U0.heap.size U0 u) => (k0.below h k0.lt).cell (j := 0) (v := .slice A0 n0 c0) rfl)
  have HAR := Lib.hid (fun (u : World) (h : Below U0.heap.size U0 u) => rd_step HA.out (hb0.trans (h.mono hwU)))
  have HBW := Lib.hid (fun (u : World) (h : Below U0.heap.size U0 u) => hb0.trans (h.mono hwU))
  have HK0 := Lib.hid k0; have HKS := Lib.hid ks
  clear hb0 k0 ks
  refine (szNand_any A0 n0 c0 X0 1048576 U0 (by omega) (by omega) HX.out (HAR.out _ (Below.refl _ _))).mono ?_
  rintro e u1 ⟨rfl, hb1⟩
  have HB1 := Lib.hid hb1
  clear hb1
  by_cases hs : ((szBks X0 : Nat) : Int) ≤ 1048576
  case neg =>
    have hz := szR_no (t := szBks X0) (left := 1048576) (by omega)
    go_wp2
    go_ret
    exact ⟨rfl, HBW.out _ HB1.out⟩
  have hz := szR_ok hs
  have hnn : 0 ≤ 1048576 - ((szBks X0 : Nat) : Int) := by omega
  have cs0 := HC0.out _ HB1.out
  have cs1 := HC1.out _ HB1.out
  rw [hz]
  go_wp2_with fail
  refine (szSlots_any a1 b1 (1048576 - ((szBks X0 : Nat) : Int)) u1 hnn (by omega) wa wb).mono ?_
  rintro e U ⟨rfl, hb2⟩
  have HB2 := Lib.hid (HB1.out.trans (hb2.mono HB1.out.size))
  clear hb2 HB1 cs0 cs1
  by_cases hs2 : ((a1.size + b1.size : Nat) : Int) ≤ 1048576 - ((szBks X0 : Nat) : Int)
  case neg =>
    have hz2 := szR_no (t := a1.size + b1.size) (left := 1048576 - ((szBks X0 : Nat) : Int)) (by omega)
    go_wp2
    go_ret
    exact ⟨rfl, HBW.out _ HB2.out⟩
  have hz2 := szR_ok hs2
  have hnn2 : 0 ≤ 1048576 - ((szBks X0 : Nat) : Int) - ((a1.size + b1.size : Nat) : Int) := by omega
  have HSM := Lib.hid (small_of_sz (X := X0) (by omega))
  have HL0 := Lib.hid HA.out.1
  have hnl : n0 ≤ 1048576 := by have := HSM.out.1; have := HL0.out; omega
  have HPL : Hid (∀ b ∈ X0, b.pages.length ≤ 2147483648) := fun b hb => by have := (HSM.out.2 b hb).1; omega
  have HKX : Hid (kAt X0 1 n0 ≤ 16777216) := by show kAt X0 1 n0 ≤ 16777216; rw [← HL0.out]; exact sz_kAt (by omega)
  obtain ⟨R, hR⟩ : ∃ R, R = mwList X0 a1 b1 := ⟨_, rfl⟩
  obtain ⟨C, hC⟩ : ∃ C, C = mwCode X0 a1 b1 := ⟨_, rfl⟩
  have hRl : R.length ≤ 48 := by rw [hR]; exact mwList_len X0 a1 b1
  have HSPEC : Hid (∀ (A : Option Addr) (W : World), RdBk W W.heap.size A n0 X0 → Calls Tryz.prog 61 #[.agg #[.slice A n0 n0], slotsV a1 b1] W (RetHO W R C)) := fun A W h => by rw [hR, hC]; exact spec_mountWith A n0 n0 X0 a1 b1 W wa wb HSM.out h
  have HIMPL : Hid (∀ (A : Option Addr) (W : World), Below w.heap.size w W → RdBk W W.heap.size A n0 X0 → Calls Tryz.prog 63 #[.agg #[.slice A n0 n0], slotsV a1 b1] W (RetHO W R C)) := fun A W hb h => by rw [hR, hC]; exact impl_mountWith A n0 n0 X0 a1 b1 a0' a1' a2' W wa wb (HGe.out.below hb) (HSe.out.below hb) HSM.out h
  obtain ⟨nR, hnR⟩ : ∃ nR, nR = R.length := ⟨_, rfl⟩
  have HNR := Lib.hid hnR
  have hnRl : nR ≤ 48 := by rw [hnR]; exact hRl
  obtain ⟨M, hM⟩ : ∃ M, M = 1 + 6 * nR := ⟨_, rfl⟩
  have HMN := Lib.hid hM
  have hMl : M ≤ 289 := by omega
  rw [hz2]
  clear hR hC hnR hRl hM hs hs2 hz hz2
  have HD0 := Lib.hid (fun (u : World) (h : Below U.heap.size U u) => HC0.out u (HB2.out.trans (h.mono HB2.out.size)))
  have HD1 := Lib.hid (fun (u : World) (h : Below U.heap.size U u) => HC1.out u (HB2.out.trans (h.mono HB2.out.size)))
  have HDN := Lib.hid (fun (u : World) (h : Below U.heap.size U u) => HCN.out u (HB2.out.trans (h.mono HB2.out.size)))
  have HDR := Lib.hid (fun (u : World) (h : Below U.heap.size U u) => HAR.out u (HB2.out.trans (h.mono HB2.out.size)))
  have HDW := Lib.hid (fun (u : World) (h : Below U.heap.size U u) => HBW.out u (HB2.out.trans (h.mono HB2.out.size)))
  have HK2 := Lib.hid (HK0.out.below HB2.out HK0.out.lt)
  have HKS2 := Lib.hid (HKS.out.below HB2.out HKS.out.lt)
  clear HC0 HC1 HCN HAR HBW HK0 HKS HB2
  go_wp2_with fail
  go_cut [6] (fun v6 u => ∃ (gw : Nat) (Aw : Option Addr) (cw lw hw : Nat), v6 = .pointer (some ⟨gw, 0, none⟩) ∧ MwSt U u gw Aw cw lw hw nR R C)
  case first =>
    rename_i J K hJ hK
    refine wp_region_any (by kernel_rfl) (wpAny_inv (MwL8 (fun s6 s23 s24 s25 s26 s27 => { tmps := #[.agg #[.slice A0 n0 c0], .agg #[.string a1, .string b1], .pointer (some ⟨w.heap.size, 0, none⟩), .pointer (some ⟨w.heap.size + 1, 0, none⟩), .bool false, .int .i64 ((1048576 - ((szBks X0 : Nat) : Int)) - ((a1.size : Int) + (b1.size : Int))), s6, undef, undef, undef, undef, undef, undef, .agg #[.slice A0 n0 c0], .int .i64 1048576, .int .i64 (1048576 - ((szBks X0 : Nat) : Int)), .int .i64 (1048576 - ((szBks X0 : Nat) : Int)), .bool (decide ((1048576 - ((szBks X0 : Nat) : Int)) < 0)), .agg #[.string a1, .string b1], .int .i64 (1048576 - ((szBks X0 : Nat) : Int)), .int .i64 ((1048576 - ((szBks X0 : Nat) : Int)) - ((a1.size : Int) + (b1.size : Int))), .int .i64 ((1048576 - ((szBks X0 : Nat) : Int)) - ((a1.size : Int) + (b1.size : Int))), .bool (decide (((1048576 - ((szBks X0 : Nat) : Int)) - ((a1.size : Int) + (b1.size : Int))) < 0)), s23, s24, s25, s26, s27, undef, undef, undef, undef, undef, undef, undef, undef, undef, undef, undef, undef, undef, undef, undef, undef, undef, undef, undef, undef, undef, undef, undef, undef, undef, undef, undef, undef, undef, undef, undef, undef, undef, undef, undef, undef, undef, undef, undef, undef, undef, undef, undef, undef, undef, undef, undef, undef, undef, undef, undef, undef, undef, undef], defers := [] }) U a1 b1 A0 n0 c0 nR X0 R C) ?sz ?step ?rend _ _ _ _ (by decide) ?start)
    case sz => intro L x u h; exact h.1
    case start =>
      refine ⟨by simp, fun h => ?_, _, _, _, _, _, _, 0, none, 0, 0, 0, rfl, (Below.refl _ U).drew, fun h => ?_, fun h => ?_, fun h => ?_, fun h => ?_, fun h => ?_, fun h => ?_, fun h => ?_, fun h => ?_, fun h => ?_, fun h => ?_⟩
      all_goals (simp only [dn_zero] at h)
    case step =>
      intro L x u hI i o ho hi hL hd
      obtain ⟨hsz, kl, s6, s23, s24, s25, s26, s27, gn, Aw, cw, lo, h1, rfl, hB, e0, e1, e2, e3, e4, g4, sep, e5, f5, f6⟩ := hI
      have hcase : i = 0 ∨ i = 1 ∨ i = 2 ∨ i = 3 ∨ i = 4 ∨ i = 5 ∨ i = 6 := by omega
      rcases hcase with rfl | rfl | rfl | rfl | rfl | rfl | rfl
      · -- operation 0
        refine wpOp_of_list ho (by cases ho; rfl) ?_
        cases ho
        have nl : ¬ Dn L 6 := fun h => Dn.not hi hL (kl h _ (by decide))
        have hcn := HDN.out u hB
        go_wp2_with fail
        exact ⟨by simp [hsz], fun h j hj => ((kl ((h.set).resolve_left (by decide))) j hj).stay, _, _, _, _, _, _, gn, Aw, cw, lo, h1, rfl, hB, fun _ => rfl, fun h _ => e1 ((h.set).resolve_left (by decide)) nl, fun h => e2 ((h.set).resolve_left (by decide)), fun h => e3 ((h.set).resolve_left (by decide)), fun h => e4 ((h.set).resolve_left (by decide)), fun h => g4 ((h.set).resolve_left (by decide)), fun h h' => sep ((h.set).resolve_left (by decide)) ((h'.set).resolve_left (by decide)), fun h => e5 ((h.set).resolve_left (by decide)), fun h _ => f5 ((h.set).resolve_left (by decide)) nl, fun h => f6 ((h.set).resolve_left (by decide))⟩
      · -- operation 1
        refine wpOp_of_list ho (by cases ho; rfl) ?_
        cases ho
        have nl : ¬ Dn L 6 := fun h => Dn.not hi hL (kl h _ (by decide))
        obtain rfl := e0 (hd ⟨0, .data⟩ (by simp) rfl)
        go_wp2_with fail
        refine (toNand_any A0 n0 c0 X0 u (by omega) HPL.out (HDR.out u hB)).mono ?_
        rintro e w1 ⟨rfl, ho, hb⟩
        go_wp2_with fail
        exact ⟨by simp [hsz], fun h j hj => ((kl ((h.set).resolve_left (by decide))) j hj).stay, _, _, _, _, _, _, gn, Aw, cw, lo, h1, rfl, hB.trans (hb.mono hB.size), fun _ => rfl, fun _ _ => ⟨_, rfl, ho.rd (Nat.le_refl _)⟩, fun h => e2 ((h.set).resolve_left (by decide)), fun h => e3 ((h.set).resolve_left (by decide)), fun h => e4 ((h.set).resolve_left (by decide)), fun h => ⟨(g4 ((h.set).resolve_left (by decide))).1.below hb (g4 ((h.set).resolve_left (by decide))).2.1, Nat.le_trans (g4 ((h.set).resolve_left (by decide))).2.1 hb.size, (g4 ((h.set).resolve_left (by decide))).2.2⟩, fun h h' => sep ((h.set).resolve_left (by decide)) ((h'.set).resolve_left (by decide)), fun h => e5 ((h.set).resolve_left (by decide)), fun h _ => (f5 ((h.set).resolve_left (by decide)) nl).below hb (f5 ((h.set).resolve_left (by decide)) nl).lt, fun h => (f6 ((h.set).resolve_left (by decide))).below hb (f6 ((h.set).resolve_left (by decide))).lt⟩
      · -- operation 2
        refine wpOp_of_list ho (by cases ho; rfl) ?_
        cases ho
        have nl : ¬ Dn L 6 := fun h => Dn.not hi hL (kl h _ (by decide))
        have hc0 := HD0.out u hB
        have hc1 := HD1.out u hB
        go_wp2_with fail
        exact ⟨by simp [hsz], fun h j hj => ((kl ((h.set).resolve_left (by decide))) j hj).stay, _, _, _, _, _, _, gn, Aw, cw, lo, h1, rfl, hB, fun h => e0 ((h.set).resolve_left (by decide)), fun h _ => e1 ((h.set).resolve_left (by decide)) nl, fun _ => rfl, fun h => e3 ((h.set).resolve_left (by decide)), fun h => e4 ((h.set).resolve_left (by decide)), fun h => g4 ((h.set).resolve_left (by decide)), fun h h' => sep ((h.set).resolve_left (by decide)) ((h'.set).resolve_left (by decide)), fun h => e5 ((h.set).resolve_left (by decide)), fun h _ => f5 ((h.set).resolve_left (by decide)) nl, fun h => f6 ((h.set).resolve_left (by decide))⟩
      · -- operation 3
        refine wpOp_of_list ho (by cases ho; rfl) ?_
        cases ho
        have nl : ¬ Dn L 6 := fun h => Dn.not hi hL (kl h _ (by decide))
        obtain rfl := e2 (hd ⟨2, .data⟩ (by simp) rfl)
        go_wp2_with fail
        refine (toSlots_any a1 b1 u).mono ?_
        rintro e w1 ⟨rfl, hb⟩
        go_wp2_with fail
        exact ⟨by simp [hsz], fun h j hj => ((kl ((h.set).resolve_left (by decide))) j hj).stay, _, _, _, _, _, _, gn, Aw, cw, lo, h1, rfl, hB.trans (hb.mono hB.size), fun h => e0 ((h.set).resolve_left (by decide)), fun h _ => (e1 ((h.set).resolve_left (by decide)) nl).elim fun A' h => ⟨A', h.1, rd_step h.2 hb⟩, fun _ => rfl, fun _ => rfl, fun h => e4 ((h.set).resolve_left (by decide)), fun h => ⟨(g4 ((h.set).resolve_left (by decide))).1.below hb (g4 ((h.set).resolve_left (by decide))).2.1, Nat.le_trans (g4 ((h.set).resolve_left (by decide))).2.1 hb.size, (g4 ((h.set).resolve_left (by decide))).2.2⟩, fun h h' => sep ((h.set).resolve_left (by decide)) ((h'.set).resolve_left (by decide)), fun h => e5 ((h.set).resolve_left (by decide)), fun h _ => (f5 ((h.set).resolve_left (by decide)) nl).below hb (f5 ((h.set).resolve_left (by decide)) nl).lt, fun h => (f6 ((h.set).resolve_left (by decide))).below hb (f6 ((h.set).resolve_left (by decide))).lt⟩
      · -- operation 4
        refine wpOp_of_list ho (by cases ho; rfl) ?_
        cases ho
        have nl : ¬ Dn L 6 := fun h => Dn.not hi hL (kl h _ (by decide))
        obtain ⟨A', rfl, hr⟩ := e1 (hd ⟨1, .data⟩ (by simp) rfl) nl
        obtain rfl := e3 (hd ⟨3, .data⟩ (by simp) rfl)
        go_wp2_with fail
        refine (HSPEC.out A' u hr).mono ?_
        rintro e w1 ⟨A9, c9, rfl, ho, hb⟩
        rw [← HNR.out] at ho ⊢
        have hs0 := hB.size
        go_wp2_with fail
        exact ⟨by simp [hsz], fun h j hj => ((kl ((h.set).resolve_left (by decide))) j hj).stay, _, _, _, _, _, _, gn, A9, c9, u.heap.size, w1.heap.size, rfl, hB.trans (hb.mono hB.size), fun h => e0 ((h.set).resolve_left (by decide)), fun _ _ => ⟨A', rfl, rd_step hr hb⟩, fun h => e2 ((h.set).resolve_left (by decide)), fun _ => rfl, fun _ => ⟨rfl, hs0⟩, fun _ => ⟨ho, Nat.le_refl _, hb.size⟩, fun _ h' => .inl (f5 ((h'.set).resolve_left (by decide)) nl).lt, fun h => e5 ((h.set).resolve_left (by decide)), fun h _ => (f5 ((h.set).resolve_left (by decide)) nl).below hb (f5 ((h.set).resolve_left (by decide)) nl).lt, fun h => absurd ((h.set).resolve_left (by decide)) nl⟩
      · -- operation 5
        refine wpOp_of_list ho (by cases ho; rfl) ?_
        cases ho
        have nl : ¬ Dn L 6 := fun h => Dn.not hi hL (kl h _ (by decide))
        have hb := box_belK u (.cells #[.slice none 0 0, .int .i64 0] 31)
        have hs0 := hB.size
        go_wp2_with fail
        exact ⟨by simp [hsz], fun h j hj => ((kl ((h.set).resolve_left (by decide))) j hj).stay, _, _, _, _, _, _, u.heap.size, Aw, cw, lo, h1, rfl, hB.trans (hb.mono hB.size), fun h => e0 ((h.set).resolve_left (by decide)), fun h _ => (e1 ((h.set).resolve_left (by decide)) nl).elim fun A' h => ⟨A', h.1, rd_step h.2 hb⟩, fun h => e2 ((h.set).resolve_left (by decide)), fun h => e3 ((h.set).resolve_left (by decide)), fun h => e4 ((h.set).resolve_left (by decide)), fun h => ⟨(g4 ((h.set).resolve_left (by decide))).1.below hb (g4 ((h.set).resolve_left (by decide))).2.1, Nat.le_trans (g4 ((h.set).resolve_left (by decide))).2.1 hb.size, (g4 ((h.set).resolve_left (by decide))).2.2⟩, fun h _ => .inr (g4 ((h.set).resolve_left (by decide))).2.1, fun _ => ⟨rfl, hs0⟩, fun _ _ => isBlk_new u _ _, fun h => absurd ((h.set).resolve_left (by decide)) nl⟩
      · -- operation 6
        refine wpOp_of_list ho (by cases ho; rfl) ?_
        cases ho
        have dall : ∀ j, j < 6 → Dn L j := by
          intro j hj
          have hcj : j = 0 ∨ j = 1 ∨ j = 2 ∨ j = 3 ∨ j = 4 ∨ j = 5 := by omega
          rcases hcj with rfl | rfl | rfl | rfl | rfl | rfl
          all_goals exact hd ⟨_, .phase⟩ (by simp) rfl
        have nl := Dn.not hi hL
        obtain ⟨rfl, hlo⟩ := e4 (dall 4 (by omega))
        obtain ⟨rfl, hgn⟩ := e5 (dall 5 (by omega))
        obtain ⟨hg4, hg5, hg6⟩ := g4 (dall 4 (by omega))
        have hsp := sep (dall 4 (by omega)) (dall 5 (by omega))
        have hk := f5 (dall 5 (by omega)) nl
        obtain ⟨p0, p1, fr0, fr1⟩ := blk2 hk
        go_wp2_with fail
        exact ⟨by simp [hsz], fun _ j hj => (dall j hj).stay, _, _, _, _, _, _, gn, Aw, cw, lo, h1, rfl, (hB.setCell (p := ⟨gn, 0, none⟩) hgn _).setCell (p := ⟨gn, 1, none⟩) hgn _, fun _ => rfl, fun _ h => absurd (Dn.new hi) h, fun _ => rfl, fun _ => rfl, fun _ => ⟨rfl, hlo⟩, fun _ => ⟨hg4.same fun k h1' h2' => (Below.heap_setCell _ _ _ _ (by dsimp only; omega)).trans (Below.heap_setCell _ _ _ _ (by dsimp only; omega)), by simp only [World.setCell]; simpa using hg5, hg6⟩, fun _ _ => hsp, fun _ => ⟨rfl, hgn⟩, fun _ h => absurd (Dn.new hi) h, fun _ => (hk.set (j := 0) _).set (j := 1) _⟩
    case rend =>
      intro L x u hI hr
      obtain ⟨hsz, -, s6, s23, s24, s25, s26, s27, gn, Aw, cw, lo, h1, rfl, hB, e0, e1, e2, e3, e4, g4, sep, e5, f5, f6⟩ := hI
      have d0 : Dn L 0 := ready_nil hr hsz (i := 0) rfl (by simp)
      have d1 : Dn L 1 := ready_nil hr hsz (i := 1) rfl (by simp [d0])
      have d2 : Dn L 2 := ready_nil hr hsz (i := 2) rfl (by simp)
      have d3 : Dn L 3 := ready_nil hr hsz (i := 3) rfl (by simp [d2, d1])
      have d4 : Dn L 4 := ready_nil hr hsz (i := 4) rfl (by simp [d1, d3])
      have d5 : Dn L 5 := ready_nil hr hsz (i := 5) rfl (by simp)
      have d6 : Dn L 6 := ready_nil hr hsz (i := 6) rfl (by simp [d0, d1, d2, d3, d4, d5])
      obtain ⟨rfl, hlo⟩ := e4 d4
      obtain ⟨rfl, hgn⟩ := e5 d5
      obtain ⟨hg4, hg5, hg6⟩ := g4 d4
      refine Met.intro (hK _ _ (Met.intro (hJ _ _ ?_)))
      repeat apply Exists.intro
      refine ⟨?_, rfl⟩
      exact ⟨gn, Aw, cw, lo, h1, rfl, hB, f6 d6, hg4, hgn, hlo, hg5, sep d4 d5, hg6⟩
  case rest =>
    obtain ⟨gw, Aw, cw, lw, hw, rfl, hst⟩ := hcut
    have HW := Lib.hid hst
    have hcn := HDN.out _ hst.bel
    have hq := hst.pos
    have HB8 := Lib.hid hst.bel
    have hz8 := hst.bel.size
    clear hst
    go_wp2_with fail
    refine (toNand_any A0 n0 c0 X0 wc (by omega) HPL.out (HDR.out _ HB8.out)).mono ?_
    rintro e u3 ⟨rfl, ho3, hb3⟩
    obtain ⟨u4, hu4⟩ : ∃ u4, u4 = wc := ⟨_, rfl⟩
    subst hu4
    generalize hAX : (some ⟨u4.heap.size + 3, 0, none⟩ : Option Addr) = AX at ho3 ⊢
    clear hAX
    have k4 := isBlk_new u3 25 [.slice AX n0 n0]
    have hb4 := box_below u3 (.cells #[.slice AX n0 n0] 25)
    have hz4 := size_alloc u3 (.cells #[.slice AX n0 n0] 25)
    change IsBlk (u3.alloc (.cells #[.slice AX n0 n0] 25)) _ _ _ at k4
    go_wp2_with fail
    obtain ⟨U2, hU2⟩ : ∃ U2, U2 = u3.alloc (.cells #[.slice AX n0 n0] 25) := ⟨_, rfl⟩
    rw [← hU2] at k4 hb4 hz4 ⊢
    have hb24 := bel_step hb3 hb4
    have hbU2 : Below U.heap.size U U2 := HB8.out.trans (hb24.mono hz8)
    have hz3 := hb3.size
    have ho4 := ho3.below hb4 (Nat.le_refl _)
    have HX2 := Lib.hid ho4
    have HKX2 := Lib.hid k4
    have HKW2 := Lib.hid (HW.out.box.below hb24 HW.out.box.lt)
    have HOW2 := Lib.hid (HW.out.own.below hb24 hq.2.2.1)
    have hgw : gw < u4.heap.size := HW.out.box.lt
    have HF0 := Lib.hid (fun (u : World) (h : Below U2.heap.size U2 u) => HD0.out u (hbU2.trans (h.mono hbU2.size)))
    have HF1 := Lib.hid (fun (u : World) (h : Below U2.heap.size U2 u) => HD1.out u (hbU2.trans (h.mono hbU2.size)))
    have HFW := Lib.hid (fun (u : World) (h : Below U2.heap.size U2 u) => HDW.out u (hbU2.trans (h.mono hbU2.size)))
    have HFX := Lib.hid (fun (u : World) (h : Below U2.heap.size U2 u) => (k4.below h k4.lt).cell (j := 0) (v := .slice AX n0 n0) rfl)
    have HFR := Lib.hid (fun (u : World) (h : Below U2.heap.size U2 u) => rd_step (ho4.rd hb4.size) h)
    have HKU2 := Lib.hid (HK2.out.below hbU2 HK2.out.lt)
    have HKSU2 := Lib.hid (HKS2.out.below hbU2 HKS2.out.lt)
    have hwU2 : w.heap.size + 1 < U.heap.size := HKS2.out.lt
    clear hb3 ho3 hb4 k4 hb24 hbU2 ho4 hU2 HW HB8 HD0 HD1 HDN HDR HDW HK2 HKS2 hcn
    go_cut [8] (fun v8 u => ∃ (gg : Nat) (Ag : Option Addr) (cg lg hg : Nat), v8 = .pointer (some ⟨gg, 0, none⟩) ∧ MwSt U2 u gg Ag cg lg hg nR R C)
    case first =>
      rename_i J K hJ hK
      refine wp_region_any (by kernel_rfl) (wpAny_inv (MwL10 (fun s8 s30 s31 s32 s33 => { tmps := #[.agg #[.slice A0 n0 c0], .agg #[.string a1, .string b1], .pointer (some ⟨w.heap.size, 0, none⟩), .pointer (some ⟨w.heap.size + 1, 0, none⟩), .bool false, .int .i64 ((1048576 - ((szBks X0 : Nat) : Int)) - ((a1.size : Int) + (b1.size : Int))), .pointer (some ⟨gw, 0, none⟩), .pointer (some ⟨u3.heap.size, 0, none⟩), s8, undef, undef, undef, undef, u13, u14, u15, u16, u17, u18, u19, u20, u21, u22, u23, u24, u25, u26, u27, .agg #[.slice A0 n0 c0], .agg #[.slice AX n0 n0], s30, s31, s32, s33, u34, u35, u36, u37, u38, u39, u40, u41, u42, u43, u44, u45, u46, u47, u48, u49, u50, u51, u52, u53, u54, u55, u56, u57, u58, u59, u60, u61, u62, u63, u64, u65, u66, u67, u68, u69, u70, u71, u72, u73, u74, u75, u76, u77, u78, u79, u80, u81], defers := [] }) U2 a1 b1 AX n0 nR R C) ?sz ?step ?rend _ _ _ _ (by decide) ?start)
      case sz => intro L x u h; exact h.1
      case start =>
        refine ⟨by simp, fun h => ?_, _, _, _, _, _, 0, none, 0, 0, 0, rfl, (Below.refl _ U2).drew, fun h => ?_, fun h => ?_, fun h => ?_, fun h => ?_, fun h => ?_, fun h => ?_, fun h => ?_, fun h => ?_, fun h => ?_⟩
        all_goals (simp only [dn_zero] at h)
      case step =>
        intro L x u hI i o ho hi hL hd
        obtain ⟨hsz, kl, s8, s30, s31, s32, s33, gn, Aw, cw, lo, h1, rfl, hB, e0, e1, e2, e3, g3, sep, e4, f4, f5⟩ := hI
        have hcase : i = 0 ∨ i = 1 ∨ i = 2 ∨ i = 3 ∨ i = 4 ∨ i = 5 := by omega
        rcases hcase with rfl | rfl | rfl | rfl | rfl | rfl
        · -- operation 0
          refine wpOp_of_list ho (by cases ho; rfl) ?_
          cases ho
          have nl : ¬ Dn L 5 := fun h => Dn.not hi hL (kl h _ (by decide))
          have hcx := HFX.out u hB
          go_wp2_with fail
          exact ⟨by simp [hsz], fun h j hj => ((kl ((h.set).resolve_left (by decide))) j hj).stay, _, _, _, _, _, gn, Aw, cw, lo, h1, rfl, hB, fun _ => rfl, fun h => e1 ((h.set).resolve_left (by decide)), fun h => e2 ((h.set).resolve_left (by decide)), fun h => e3 ((h.set).resolve_left (by decide)), fun h => g3 ((h.set).resolve_left (by decide)), fun h h' => sep ((h.set).resolve_left (by decide)) ((h'.set).resolve_left (by decide)), fun h => e4 ((h.set).resolve_left (by decide)), fun h _ => f4 ((h.set).resolve_left (by decide)) nl, fun h => f5 ((h.set).resolve_left (by decide))⟩
        · -- operation 1
          refine wpOp_of_list ho (by cases ho; rfl) ?_
          cases ho
          have nl : ¬ Dn L 5 := fun h => Dn.not hi hL (kl h _ (by decide))
          have hc0 := HF0.out u hB
          have hc1 := HF1.out u hB
          go_wp2_with fail
          exact ⟨by simp [hsz], fun h j hj => ((kl ((h.set).resolve_left (by decide))) j hj).stay, _, _, _, _, _, gn, Aw, cw, lo, h1, rfl, hB, fun h => e0 ((h.set).resolve_left (by decide)), fun _ => rfl, fun h => e2 ((h.set).resolve_left (by decide)), fun h => e3 ((h.set).resolve_left (by decide)), fun h => g3 ((h.set).resolve_left (by decide)), fun h h' => sep ((h.set).resolve_left (by decide)) ((h'.set).resolve_left (by decide)), fun h => e4 ((h.set).resolve_left (by decide)), fun h _ => f4 ((h.set).resolve_left (by decide)) nl, fun h => f5 ((h.set).resolve_left (by decide))⟩
        · -- operation 2
          refine wpOp_of_list ho (by cases ho; rfl) ?_
          cases ho
          have nl : ¬ Dn L 5 := fun h => Dn.not hi hL (kl h _ (by decide))
          obtain rfl := e1 (hd ⟨1, .data⟩ (by simp) rfl)
          go_wp2_with fail
          refine (toSlots_any a1 b1 u).mono ?_
          rintro e w1 ⟨rfl, hb⟩
          go_wp2_with fail
          exact ⟨by simp [hsz], fun h j hj => ((kl ((h.set).resolve_left (by decide))) j hj).stay, _, _, _, _, _, gn, Aw, cw, lo, h1, rfl, hB.trans (hb.mono hB.size), fun h => e0 ((h.set).resolve_left (by decide)), fun _ => rfl, fun _ => rfl, fun h => e3 ((h.set).resolve_left (by decide)), fun h => ⟨(g3 ((h.set).resolve_left (by decide))).1.below hb (g3 ((h.set).resolve_left (by decide))).2.1, Nat.le_trans (g3 ((h.set).resolve_left (by decide))).2.1 hb.size, (g3 ((h.set).resolve_left (by decide))).2.2⟩, fun h h' => sep ((h.set).resolve_left (by decide)) ((h'.set).resolve_left (by decide)), fun h => e4 ((h.set).resolve_left (by decide)), fun h _ => (f4 ((h.set).resolve_left (by decide)) nl).below hb (f4 ((h.set).resolve_left (by decide)) nl).lt, fun h => (f5 ((h.set).resolve_left (by decide))).below hb (f5 ((h.set).resolve_left (by decide))).lt⟩
        · -- operation 3
          refine wpOp_of_list ho (by cases ho; rfl) ?_
          cases ho
          have nl : ¬ Dn L 5 := fun h => Dn.not hi hL (kl h _ (by decide))
          obtain rfl := e0 (hd ⟨0, .data⟩ (by simp) rfl)
          obtain rfl := e2 (hd ⟨2, .data⟩ (by simp) rfl)
          go_wp2_with fail
          refine (HIMPL.out AX u (HFW.out u hB) (HFR.out u hB)).mono ?_
          rintro e w1 ⟨A9, c9, rfl, ho, hb⟩
          rw [← HNR.out] at ho ⊢
          have hs0 := hB.size
          go_wp2_with fail
          exact ⟨by simp [hsz], fun h j hj => ((kl ((h.set).resolve_left (by decide))) j hj).stay, _, _, _, _, _, gn, A9, c9, u.heap.size, w1.heap.size, rfl, hB.trans (hb.mono hB.size), fun _ => rfl, fun h => e1 ((h.set).resolve_left (by decide)), fun _ => rfl, fun _ => ⟨rfl, hs0⟩, fun _ => ⟨ho, Nat.le_refl _, hb.size⟩, fun _ h' => .inl (f4 ((h'.set).resolve_left (by decide)) nl).lt, fun h => e4 ((h.set).resolve_left (by decide)), fun h _ => (f4 ((h.set).resolve_left (by decide)) nl).below hb (f4 ((h.set).resolve_left (by decide)) nl).lt, fun h => absurd ((h.set).resolve_left (by decide)) nl⟩
        · -- operation 4
          refine wpOp_of_list ho (by cases ho; rfl) ?_
          cases ho
          have nl : ¬ Dn L 5 := fun h => Dn.not hi hL (kl h _ (by decide))
          have hb := box_belK u (.cells #[.slice none 0 0, .int .i64 0] 31)
          have hs0 := hB.size
          go_wp2_with fail
          exact ⟨by simp [hsz], fun h j hj => ((kl ((h.set).resolve_left (by decide))) j hj).stay, _, _, _, _, _, u.heap.size, Aw, cw, lo, h1, rfl, hB.trans (hb.mono hB.size), fun h => e0 ((h.set).resolve_left (by decide)), fun h => e1 ((h.set).resolve_left (by decide)), fun h => e2 ((h.set).resolve_left (by decide)), fun h => e3 ((h.set).resolve_left (by decide)), fun h => ⟨(g3 ((h.set).resolve_left (by decide))).1.below hb (g3 ((h.set).resolve_left (by decide))).2.1, Nat.le_trans (g3 ((h.set).resolve_left (by decide))).2.1 hb.size, (g3 ((h.set).resolve_left (by decide))).2.2⟩, fun h _ => .inr (g3 ((h.set).resolve_left (by decide))).2.1, fun _ => ⟨rfl, hs0⟩, fun _ _ => isBlk_new u _ _, fun h => absurd ((h.set).resolve_left (by decide)) nl⟩
        · -- operation 5
          refine wpOp_of_list ho (by cases ho; rfl) ?_
          cases ho
          have dall : ∀ j, j < 5 → Dn L j := by
            intro j hj
            have hcj : j = 0 ∨ j = 1 ∨ j = 2 ∨ j = 3 ∨ j = 4 := by omega
            rcases hcj with rfl | rfl | rfl | rfl | rfl
            all_goals exact hd ⟨_, .phase⟩ (by simp) rfl
          have nl := Dn.not hi hL
          obtain ⟨rfl, hlo⟩ := e3 (dall 3 (by omega))
          obtain ⟨rfl, hgn⟩ := e4 (dall 4 (by omega))
          obtain ⟨hg4, hg5, hg6⟩ := g3 (dall 3 (by omega))
          have hsp := sep (dall 3 (by omega)) (dall 4 (by omega))
          have hk := f4 (dall 4 (by omega)) nl
          obtain ⟨p0, p1, fr0, fr1⟩ := blk2 hk
          go_wp2_with fail
          exact ⟨by simp [hsz], fun _ j hj => (dall j hj).stay, _, _, _, _, _, gn, Aw, cw, lo, h1, rfl, (hB.setCell (p := ⟨gn, 0, none⟩) hgn _).setCell (p := ⟨gn, 1, none⟩) hgn _, fun _ => rfl, fun _ => rfl, fun _ => rfl, fun _ => ⟨rfl, hlo⟩, fun _ => ⟨hg4.same fun k h1' h2' => (Below.heap_setCell _ _ _ _ (by dsimp only; omega)).trans (Below.heap_setCell _ _ _ _ (by dsimp only; omega)), by simp only [World.setCell]; simpa using hg5, hg6⟩, fun _ _ => hsp, fun _ => ⟨rfl, hgn⟩, fun _ h => absurd (Dn.new hi) h, fun _ => (hk.set (j := 0) _).set (j := 1) _⟩
      case rend =>
        intro L x u hI hr
        obtain ⟨hsz, -, s8, s30, s31, s32, s33, gn, Aw, cw, lo, h1, rfl, hB, e0, e1, e2, e3, g3, sep, e4, f4, f5⟩ := hI
        have d0 : Dn L 0 := ready_nil hr hsz (i := 0) rfl (by simp)
        have d1 : Dn L 1 := ready_nil hr hsz (i := 1) rfl (by simp)
        have d2 : Dn L 2 := ready_nil hr hsz (i := 2) rfl (by simp [d1])
        have d3 : Dn L 3 := ready_nil hr hsz (i := 3) rfl (by simp [d0, d2])
        have d4 : Dn L 4 := ready_nil hr hsz (i := 4) rfl (by simp)
        have d5 : Dn L 5 := ready_nil hr hsz (i := 5) rfl (by simp [d0, d1, d2, d3, d4])
        obtain ⟨rfl, hlo⟩ := e3 d3
        obtain ⟨rfl, hgn⟩ := e4 d4
        obtain ⟨hg4, hg5, hg6⟩ := g3 d3
        refine Met.intro (hK _ _ (Met.intro (hJ _ _ ?_)))
        repeat apply Exists.intro
        refine ⟨?_, rfl⟩
        exact ⟨gn, Aw, cw, lo, h1, rfl, hB, f5 d5, hg4, hgn, hlo, hg5, sep d3 d4, hg6⟩
    case rest =>
    obtain ⟨gg, Ag, cg, lg, hg, rfl, hst⟩ := hcut
    obtain ⟨u8, hu8⟩ : ∃ u8, u8 = wc := ⟨_, rfl⟩
    subst hu8
    have hq2 := hst.pos
    have hgg : gg < u8.heap.size := hst.box.lt
    have HB8 : Hid (Below w.heap.size w u8) := HFW.out u8 hst.bel
    have hwz : w.heap.size + 1 < u4.heap.size := by omega
    have h28 := hst.bel.size
    have HK8 := Lib.hid (HKU2.out.below hst.bel HKU2.out.lt)
    have HKS8 := Lib.hid (HKSU2.out.below hst.bel HKSU2.out.lt)
    have HKW8 := Lib.hid (HKW2.out.below hst.bel HKW2.out.lt)
    have HKX8 := Lib.hid (HKX2.out.below hst.bel HKX2.out.lt)
    have HKG8 := Lib.hid hst.box
    have HOW8 := Lib.hid (HOW2.out.below hst.bel (by omega))
    have HOX8 := Lib.hid (HX2.out.below hst.bel (by omega))
    have HOG8 := Lib.hid hst.own
    clear hst HKU2 HKSU2 HKW2 HKX2 HOW2 HX2 HF0 HF1 HFW HFX HFR
    have e0 := (HKW8.out).cell (j := 0) rfl
    have e1 := (HKW8.out).cell (j := 1) rfl
    have f0 := (HKG8.out).cell (j := 0) rfl
    have f1 := (HKG8.out).cell (j := 1) rfl
    go_wp2_with fail
    clear e0 e1 f0 f1
    refine (eqHistOut_same Ag Aw nR cg cw R C u8 (by omega) (HOG8.out.rd (by omega)) (HOW8.out.rd (by omega))).mono ?_
    rintro e u9 ⟨rfl, hb9⟩
    have HB89 := Lib.hid hb9
    have hx9 : u9.cell? ⟨w.heap.size, 0, none⟩ = some (.slice A0 n0 c0) := (HK8.out.below hb9 HK8.out.lt).cell rfl
    have hy9 : u9.cell? ⟨u3.heap.size, 0, none⟩ = some (.slice AX n0 n0) := (HKX8.out.below hb9 HKX8.out.lt).cell rfl
    have hlx : w.heap.size < u9.heap.size := by have := HK8.out.lt; have := hb9.size; omega
    have hly : u3.heap.size < u9.heap.size := by have := HKX8.out.lt; have := hb9.size; omega
    have h89 := hb9.size
    clear hb9
    go_wp2
    have HD9 : Hid (Below u9.heap.size u9 u9.drew) := (Below.refl _ _).drew
    have HR9 : Hid (RdBk u9.drew u9.drew.heap.size A0 n0 X0) := rd_step (rd_step HA.out (bel_step HB8.out HB89.out)) HD9.out
    have HOX9 : Hid (OwNd u9 u4.heap.size u3.heap.size AX n0 X0) := HOX8.out.below HB89.out (by omega)
    go_region_held3 (fun w' => w'.cell? ⟨w.heap.size, 0, none⟩ = some (.slice A0 n0 c0) ∧ w'.cell? ⟨u3.heap.size, 0, none⟩ = some (.slice AX n0 n0))
      (first | exact ⟨hx9, hy9⟩ | exact hsa | exact hsb | go_keep)
      (first
        | (go_at_call 62
           refine (toNand_any A0 n0 c0 X0 u9.drew (by omega) HPL.out HR9.out).mono ?_
           rintro e ua ⟨rfl, hoa, hba⟩
           have hsa : ua.cell? ⟨w.heap.size, 0, none⟩ = some (.slice A0 n0 c0) ∧ ua.cell? ⟨u3.heap.size, 0, none⟩ = some (.slice AX n0 n0) :=
             ⟨(hba.cell (p := ⟨w.heap.size, 0, none⟩) hlx).trans hx9, (hba.cell (p := ⟨u3.heap.size, 0, none⟩) hly).trans hy9⟩
           have HBa := Lib.hid (HD9.out.trans hba)
           have HOa := Lib.hid hoa
           clear hoa hba)
        | (go_at_call 65
           refine (eqNand_same _ _ n0 n0 n0 X0 _ (by omega) HPL.out ((HOX9.out.below HBa.out (by omega)).rd (by have := HBa.out.size; omega)) (HOa.out.rd (Nat.le_refl _))).mono ?_
           rintro e ub ⟨rfl, hbb⟩
           have HBb := Lib.hid (bel_step HBa.out hbb)
           have hsb : ub.cell? ⟨w.heap.size, 0, none⟩ = some (.slice A0 n0 c0) ∧ ub.cell? ⟨u3.heap.size, 0, none⟩ = some (.slice AX n0 n0) :=
             ⟨(HBb.out.cell (p := ⟨w.heap.size, 0, none⟩) hlx).trans hx9, (HBb.out.cell (p := ⟨u3.heap.size, 0, none⟩) hly).trans hy9⟩
           clear hbb))
    all_goals
      have HB8b : Hid (Below u8.heap.size u8 ub) := bel_step HB89.out HBb.out
      have h8b := HB8b.out.size
      have hyb : ub.cell? ⟨u3.heap.size, 0, none⟩ = some (.slice AX n0 n0) := hsb.2
      clear hsb hx9 hy9 hlx hly HR9 HOX9 HD9
      go_wp2_with fail
      refine (markNand_any _ u4.heap.size u3.heap.size n0 n0 1 X0 ub (by omega) HKX.out (by omega) (HOX8.out.below HB8b.out (by omega))).mono ?_
      rintro e um ⟨rfl, -, hbm⟩
      have hbm8 : Btw u4.heap.size u3.heap.size u8 um := (Btw.of_below HB8b.out).trans hbm
      have h8m := hbm8.size
      have HBm : Hid (Below w.heap.size w um) := HB8.out.trans ((hbm8.below (by omega)).mono (by omega))
      have HKm : Hid (IsBlk um w.heap.size 97 [.slice A0 n0 c0]) := (hbm8.block _ HK8.out.lt (by omega)).trans HK8.out
      have HKSm : Hid (IsBlk um (w.heap.size + 1) 82 [.string a1, .string b1]) := (hbm8.block _ HKS8.out.lt (by omega)).trans HKS8.out
      have HKWm : Hid (IsBlk um gw 31 [.slice Aw nR cw, .int .i64 C]) := (hbm8.block _ HKW8.out.lt (by omega)).trans HKW8.out
      have HKGm : Hid (IsBlk um gg 31 [.slice Ag nR cg, .int .i64 C]) := (hbm8.block _ HKG8.out.lt (by omega)).trans HKG8.out
      have HOWm := Lib.hid (HOW8.out.btw hbm8 (by omega) (by omega))
      have HOGm := Lib.hid (HOG8.out.btw hbm8 (by omega) (by omega))
      have e0 := (HKWm.out).cell (j := 0) rfl
      have e1 := (HKWm.out).cell (j := 1) rfl
      have f0 := (HKGm.out).cell (j := 0) rfl
      have f1 := (HKGm.out).cell (j := 1) rfl
      clear hbm hbm8 hyb
      go_wp2_with fail
      refine (eqHistOut_same Ag Aw nR cg cw R C um (by omega) (HOGm.out.rd (by omega)) (HOWm.out.rd (by omega))).mono ?_
      rintro e un ⟨rfl, hbn⟩
      have HBn := Lib.hid hbn
      have hmn := hbn.size
      have HKGn := Lib.hid (HKGm.out.below hbn HKGm.out.lt)
      clear hbn e0 e1 f0 f1
      have f0 := (HKGn.out).cell (j := 0) rfl
      have f1 := (HKGn.out).cell (j := 1) rfl
      go_wp2_with fail
      refine (markHistOut_any Ag lg hg nR cg 1 R C un (by omega) (by omega) (by omega) (HOGm.out.below HBn.out (by omega))).mono ?_
      rintro e up ⟨rfl, hmk, hbp⟩
      rw [← HMN.out]
      have hbmp : Btw lg hg um up := (Btw.of_below HBn.out).trans hbp
      have hmp := hbmp.size
      have HBp : Hid (Below w.heap.size w up) := HBm.out.trans ((hbmp.below (by omega)).mono (by omega))
      have HKp : Hid (IsBlk up w.heap.size 97 [.slice A0 n0 c0]) := (hbmp.block _ HKm.out.lt (by omega)).trans HKm.out
      have HKSp : Hid (IsBlk up (w.heap.size + 1) 82 [.string a1, .string b1]) := (hbmp.block _ HKSm.out.lt (by omega)).trans HKSm.out
      have HKWp : Hid (IsBlk up gw 31 [.slice Aw nR cw, .int .i64 C]) := (hbmp.block _ HKWm.out.lt (by omega)).trans HKWm.out
      have HKGp : Hid (IsBlk up gg 31 [.slice Ag nR cg, .int .i64 C]) := (hbmp.block _ HKGm.out.lt (by omega)).trans HKGm.out
      have HOWp := Lib.hid (HOWm.out.btw hbmp (by omega) (by omega))
      have HMKp := Lib.hid hmk
      clear hbp hbmp hmk f0 f1
      have f0 := (HKGp.out).cell (j := 0) rfl
      have f1 := (HKGp.out).cell (j := 1) rfl
      go_wp2_with fail
      refine (heldHistOut_any Ag lg hg nR cg 1 C up (by omega) (by omega) (by omega) HMKp.out).mono ?_
      rintro e uq ⟨rfl, hbq⟩
      rw [← HMN.out]
      have HBpq := Lib.hid hbq
      have hpq := hbq.size
      have HBq := Lib.hid (bel_step HBp.out hbq)
      have HKq := Lib.hid (HKp.out.below hbq HKp.out.lt)
      have HKSq := Lib.hid (HKSp.out.below hbq HKSp.out.lt)
      clear hbq f0 f1
      have HE0 := Lib.hid (fun (u : World) (h : Below uq.heap.size uq u) => (HKSq.out.below h HKSq.out.lt).cell (j := 0) (v := .string a1) rfl)
      have HE1 := Lib.hid (fun (u : World) (h : Below uq.heap.size uq u) => (HKSq.out.below h HKSq.out.lt).cell (j := 1) (v := .string b1) rfl)
      have HEN := Lib.hid (fun (u : World) (h : Below uq.heap.size uq u) => (HKq.out.below h HKq.out.lt).cell (j := 0) (v := .slice A0 n0 c0) rfl)
      have HEW := Lib.hid (fun (u : World) (h : Below uq.heap.size uq u) => bel_step HBq.out h)
      have HER := Lib.hid (fun (u : World) (h : Below uq.heap.size uq u) => rd_step HA.out (bel_step HBq.out h))
      go_wp2_with fail
      go_cut [12] (fun v12 u => ∃ (gt : Nat) (Ah : Option Addr) (ch lh hh : Nat), v12 = .pointer (some ⟨gt, 0, none⟩) ∧ MwSt uq u gt Ah ch lh hh nR R C)
      case first =>
        rename_i J K hJ hK
        refine wp_region_any (by kernel_rfl) (wpAny_inv (MwL27 (fun s12 s65 s66 s67 s68 s69 => { tmps := #[.agg #[.slice A0 n0 c0], .agg #[.string a1, .string b1], .pointer (some ⟨w.heap.size, 0, none⟩), .pointer (some ⟨w.heap.size + 1, 0, none⟩), .bool false, .int .i64 ((1048576 - ((szBks X0 : Nat) : Int)) - ((a1.size : Int) + (b1.size : Int))), .pointer (some ⟨gw, 0, none⟩), .pointer (some ⟨u3.heap.size, 0, none⟩), .pointer (some ⟨gg, 0, none⟩), .int .i64 ((kAt X0 1 n0 : Nat) : Int), .int .i64 (M : Int), .int .i64 (M : Int), s12, u13, u14, u15, u16, u17, u18, u19, u20, u21, u22, u23, u24, u25, u26, u27, u28, u29, u30, u31, u32, u33, .agg #[.slice Ag nR cg, .int .i64 C], .agg #[.slice Aw nR cw, .int .i64 C], .bool true, .bool false, .agg #[.slice AX n0 n0], .agg #[.slice A0 n0 c0], .agg #[.slice (some ⟨u9.heap.size + 3, 0, none⟩) n0 n0], .bool true, .bool false, .agg #[.slice AX n0 n0], .int .i64 1, .int .i64 ((kAt X0 1 n0 : Nat) : Int), .int .i64 ((kAt X0 1 n0 : Nat) : Int), .bool (decide (((kAt X0 1 n0 : Nat) : Int) < 0)), .bool (decide (((kAt X0 1 n0 : Nat) : Int) < 0)), .agg #[.slice Ag nR cg, .int .i64 C], .agg #[.slice Aw nR cw, .int .i64 C], .bool true, .bool false, .bool (decide (((kAt X0 1 n0 : Nat) : Int) < 0)), .agg #[.slice Ag nR cg, .int .i64 C], .int .i64 1, .int .i64 (M : Int), .agg #[.slice Ag nR cg, .int .i64 C], .int .i64 1, .int .i64 (M : Int), .int .i64 (M : Int), .bool (decide ((M : Int) < 0)), .int .i64 (M : Int), .int .i64 (M : Int), .bool false, s65, s66, s67, s68, s69, u70, u71, u72, u73, u74, u75, u76, u77, u78, u79, u80, u81], defers := [] }) uq a1 b1 A0 n0 c0 nR X0 R C) ?sz ?step ?rend _ _ _ _ (by decide) ?start)
        case sz => intro L x u h; exact h.1
        case start =>
          refine ⟨by simp, fun h => ?_, _, _, _, _, _, _, 0, none, 0, 0, 0, rfl, (Below.refl _ uq).drew, fun h => ?_, fun h => ?_, fun h => ?_, fun h => ?_, fun h => ?_, fun h => ?_, fun h => ?_, fun h => ?_, fun h => ?_, fun h => ?_⟩
          all_goals (simp only [dn_zero] at h)
        case step =>
          intro L x u hI i o ho hi hL hd
          obtain ⟨hsz, kl, s12, s65, s66, s67, s68, s69, gn, Aw, cw, lo, h1, rfl, hB, e0, e1, e2, e3, e4, g4, sep, e5, f5, f6⟩ := hI
          have hcase : i = 0 ∨ i = 1 ∨ i = 2 ∨ i = 3 ∨ i = 4 ∨ i = 5 ∨ i = 6 := by omega
          rcases hcase with rfl | rfl | rfl | rfl | rfl | rfl | rfl
          · -- operation 0
            refine wpOp_of_list ho (by cases ho; rfl) ?_
            cases ho
            have nl : ¬ Dn L 6 := fun h => Dn.not hi hL (kl h _ (by decide))
            have hcn := HEN.out u hB
            go_wp2_with fail
            exact ⟨by simp [hsz], fun h j hj => ((kl ((h.set).resolve_left (by decide))) j hj).stay, _, _, _, _, _, _, gn, Aw, cw, lo, h1, rfl, hB, fun _ => rfl, fun h _ => e1 ((h.set).resolve_left (by decide)) nl, fun h => e2 ((h.set).resolve_left (by decide)), fun h => e3 ((h.set).resolve_left (by decide)), fun h => e4 ((h.set).resolve_left (by decide)), fun h => g4 ((h.set).resolve_left (by decide)), fun h h' => sep ((h.set).resolve_left (by decide)) ((h'.set).resolve_left (by decide)), fun h => e5 ((h.set).resolve_left (by decide)), fun h _ => f5 ((h.set).resolve_left (by decide)) nl, fun h => f6 ((h.set).resolve_left (by decide))⟩
          · -- operation 1
            refine wpOp_of_list ho (by cases ho; rfl) ?_
            cases ho
            have nl : ¬ Dn L 6 := fun h => Dn.not hi hL (kl h _ (by decide))
            obtain rfl := e0 (hd ⟨0, .data⟩ (by simp) rfl)
            go_wp2_with fail
            refine (toNand_any A0 n0 c0 X0 u (by omega) HPL.out (HER.out u hB)).mono ?_
            rintro e w1 ⟨rfl, ho, hb⟩
            go_wp2_with fail
            exact ⟨by simp [hsz], fun h j hj => ((kl ((h.set).resolve_left (by decide))) j hj).stay, _, _, _, _, _, _, gn, Aw, cw, lo, h1, rfl, hB.trans (hb.mono hB.size), fun _ => rfl, fun _ _ => ⟨_, rfl, ho.rd (Nat.le_refl _)⟩, fun h => e2 ((h.set).resolve_left (by decide)), fun h => e3 ((h.set).resolve_left (by decide)), fun h => e4 ((h.set).resolve_left (by decide)), fun h => ⟨(g4 ((h.set).resolve_left (by decide))).1.below hb (g4 ((h.set).resolve_left (by decide))).2.1, Nat.le_trans (g4 ((h.set).resolve_left (by decide))).2.1 hb.size, (g4 ((h.set).resolve_left (by decide))).2.2⟩, fun h h' => sep ((h.set).resolve_left (by decide)) ((h'.set).resolve_left (by decide)), fun h => e5 ((h.set).resolve_left (by decide)), fun h _ => (f5 ((h.set).resolve_left (by decide)) nl).below hb (f5 ((h.set).resolve_left (by decide)) nl).lt, fun h => (f6 ((h.set).resolve_left (by decide))).below hb (f6 ((h.set).resolve_left (by decide))).lt⟩
          · -- operation 2
            refine wpOp_of_list ho (by cases ho; rfl) ?_
            cases ho
            have nl : ¬ Dn L 6 := fun h => Dn.not hi hL (kl h _ (by decide))
            have hc0 := HE0.out u hB
            have hc1 := HE1.out u hB
            go_wp2_with fail
            exact ⟨by simp [hsz], fun h j hj => ((kl ((h.set).resolve_left (by decide))) j hj).stay, _, _, _, _, _, _, gn, Aw, cw, lo, h1, rfl, hB, fun h => e0 ((h.set).resolve_left (by decide)), fun h _ => e1 ((h.set).resolve_left (by decide)) nl, fun _ => rfl, fun h => e3 ((h.set).resolve_left (by decide)), fun h => e4 ((h.set).resolve_left (by decide)), fun h => g4 ((h.set).resolve_left (by decide)), fun h h' => sep ((h.set).resolve_left (by decide)) ((h'.set).resolve_left (by decide)), fun h => e5 ((h.set).resolve_left (by decide)), fun h _ => f5 ((h.set).resolve_left (by decide)) nl, fun h => f6 ((h.set).resolve_left (by decide))⟩
          · -- operation 3
            refine wpOp_of_list ho (by cases ho; rfl) ?_
            cases ho
            have nl : ¬ Dn L 6 := fun h => Dn.not hi hL (kl h _ (by decide))
            obtain rfl := e2 (hd ⟨2, .data⟩ (by simp) rfl)
            go_wp2_with fail
            refine (toSlots_any a1 b1 u).mono ?_
            rintro e w1 ⟨rfl, hb⟩
            go_wp2_with fail
            exact ⟨by simp [hsz], fun h j hj => ((kl ((h.set).resolve_left (by decide))) j hj).stay, _, _, _, _, _, _, gn, Aw, cw, lo, h1, rfl, hB.trans (hb.mono hB.size), fun h => e0 ((h.set).resolve_left (by decide)), fun h _ => (e1 ((h.set).resolve_left (by decide)) nl).elim fun A' h => ⟨A', h.1, rd_step h.2 hb⟩, fun _ => rfl, fun _ => rfl, fun h => e4 ((h.set).resolve_left (by decide)), fun h => ⟨(g4 ((h.set).resolve_left (by decide))).1.below hb (g4 ((h.set).resolve_left (by decide))).2.1, Nat.le_trans (g4 ((h.set).resolve_left (by decide))).2.1 hb.size, (g4 ((h.set).resolve_left (by decide))).2.2⟩, fun h h' => sep ((h.set).resolve_left (by decide)) ((h'.set).resolve_left (by decide)), fun h => e5 ((h.set).resolve_left (by decide)), fun h _ => (f5 ((h.set).resolve_left (by decide)) nl).below hb (f5 ((h.set).resolve_left (by decide)) nl).lt, fun h => (f6 ((h.set).resolve_left (by decide))).below hb (f6 ((h.set).resolve_left (by decide))).lt⟩
          · -- operation 4
            refine wpOp_of_list ho (by cases ho; rfl) ?_
            cases ho
            have nl : ¬ Dn L 6 := fun h => Dn.not hi hL (kl h _ (by decide))
            obtain ⟨A', rfl, hr⟩ := e1 (hd ⟨1, .data⟩ (by simp) rfl) nl
            obtain rfl := e3 (hd ⟨3, .data⟩ (by simp) rfl)
            go_wp2_with fail
            refine (HIMPL.out A' u (HEW.out u hB) hr).mono ?_
            rintro e w1 ⟨A9, c9, rfl, ho, hb⟩
            rw [← HNR.out] at ho ⊢
            have hs0 := hB.size
            go_wp2_with fail
            exact ⟨by simp [hsz], fun h j hj => ((kl ((h.set).resolve_left (by decide))) j hj).stay, _, _, _, _, _, _, gn, A9, c9, u.heap.size, w1.heap.size, rfl, hB.trans (hb.mono hB.size), fun h => e0 ((h.set).resolve_left (by decide)), fun _ _ => ⟨A', rfl, rd_step hr hb⟩, fun h => e2 ((h.set).resolve_left (by decide)), fun _ => rfl, fun _ => ⟨rfl, hs0⟩, fun _ => ⟨ho, Nat.le_refl _, hb.size⟩, fun _ h' => .inl (f5 ((h'.set).resolve_left (by decide)) nl).lt, fun h => e5 ((h.set).resolve_left (by decide)), fun h _ => (f5 ((h.set).resolve_left (by decide)) nl).below hb (f5 ((h.set).resolve_left (by decide)) nl).lt, fun h => absurd ((h.set).resolve_left (by decide)) nl⟩
          · -- operation 5
            refine wpOp_of_list ho (by cases ho; rfl) ?_
            cases ho
            have nl : ¬ Dn L 6 := fun h => Dn.not hi hL (kl h _ (by decide))
            have hb := box_belK u (.cells #[.slice none 0 0, .int .i64 0] 31)
            have hs0 := hB.size
            go_wp2_with fail
            exact ⟨by simp [hsz], fun h j hj => ((kl ((h.set).resolve_left (by decide))) j hj).stay, _, _, _, _, _, _, u.heap.size, Aw, cw, lo, h1, rfl, hB.trans (hb.mono hB.size), fun h => e0 ((h.set).resolve_left (by decide)), fun h _ => (e1 ((h.set).resolve_left (by decide)) nl).elim fun A' h => ⟨A', h.1, rd_step h.2 hb⟩, fun h => e2 ((h.set).resolve_left (by decide)), fun h => e3 ((h.set).resolve_left (by decide)), fun h => e4 ((h.set).resolve_left (by decide)), fun h => ⟨(g4 ((h.set).resolve_left (by decide))).1.below hb (g4 ((h.set).resolve_left (by decide))).2.1, Nat.le_trans (g4 ((h.set).resolve_left (by decide))).2.1 hb.size, (g4 ((h.set).resolve_left (by decide))).2.2⟩, fun h _ => .inr (g4 ((h.set).resolve_left (by decide))).2.1, fun _ => ⟨rfl, hs0⟩, fun _ _ => isBlk_new u _ _, fun h => absurd ((h.set).resolve_left (by decide)) nl⟩
          · -- operation 6
            refine wpOp_of_list ho (by cases ho; rfl) ?_
            cases ho
            have dall : ∀ j, j < 6 → Dn L j := by
              intro j hj
              have hcj : j = 0 ∨ j = 1 ∨ j = 2 ∨ j = 3 ∨ j = 4 ∨ j = 5 := by omega
              rcases hcj with rfl | rfl | rfl | rfl | rfl | rfl
              all_goals exact hd ⟨_, .phase⟩ (by simp) rfl
            have nl := Dn.not hi hL
            obtain ⟨rfl, hlo⟩ := e4 (dall 4 (by omega))
            obtain ⟨rfl, hgn⟩ := e5 (dall 5 (by omega))
            obtain ⟨hg4, hg5, hg6⟩ := g4 (dall 4 (by omega))
            have hsp := sep (dall 4 (by omega)) (dall 5 (by omega))
            have hk := f5 (dall 5 (by omega)) nl
            obtain ⟨p0, p1, fr0, fr1⟩ := blk2 hk
            go_wp2_with fail
            exact ⟨by simp [hsz], fun _ j hj => (dall j hj).stay, _, _, _, _, _, _, gn, Aw, cw, lo, h1, rfl, (hB.setCell (p := ⟨gn, 0, none⟩) hgn _).setCell (p := ⟨gn, 1, none⟩) hgn _, fun _ => rfl, fun _ h => absurd (Dn.new hi) h, fun _ => rfl, fun _ => rfl, fun _ => ⟨rfl, hlo⟩, fun _ => ⟨hg4.same fun k h1' h2' => (Below.heap_setCell _ _ _ _ (by dsimp only; omega)).trans (Below.heap_setCell _ _ _ _ (by dsimp only; omega)), by simp only [World.setCell]; simpa using hg5, hg6⟩, fun _ _ => hsp, fun _ => ⟨rfl, hgn⟩, fun _ h => absurd (Dn.new hi) h, fun _ => (hk.set (j := 0) _).set (j := 1) _⟩
        case rend =>
          intro L x u hI hr
          obtain ⟨hsz, -, s12, s65, s66, s67, s68, s69, gn, Aw, cw, lo, h1, rfl, hB, e0, e1, e2, e3, e4, g4, sep, e5, f5, f6⟩ := hI
          have d0 : Dn L 0 := ready_nil hr hsz (i := 0) rfl (by simp)
          have d1 : Dn L 1 := ready_nil hr hsz (i := 1) rfl (by simp [d0])
          have d2 : Dn L 2 := ready_nil hr hsz (i := 2) rfl (by simp)
          have d3 : Dn L 3 := ready_nil hr hsz (i := 3) rfl (by simp [d2, d1])
          have d4 : Dn L 4 := ready_nil hr hsz (i := 4) rfl (by simp [d1, d3])
          have d5 : Dn L 5 := ready_nil hr hsz (i := 5) rfl (by simp)
          have d6 : Dn L 6 := ready_nil hr hsz (i := 6) rfl (by simp [d0, d1, d2, d3, d4, d5])
          obtain ⟨rfl, hlo⟩ := e4 d4
          obtain ⟨rfl, hgn⟩ := e5 d5
          obtain ⟨hg4, hg5, hg6⟩ := g4 d4
          refine Met.intro (hK _ _ (Met.intro (hJ _ _ ?_)))
          repeat apply Exists.intro
          refine ⟨?_, rfl⟩
          exact ⟨gn, Aw, cw, lo, h1, rfl, hB, f6 d6, hg4, hgn, hlo, hg5, sep d4 d5, hg6⟩
      case rest =>
      obtain ⟨gt, Ah, ch, lh, hh, rfl, hst⟩ := hcut
      obtain ⟨ut, hut⟩ : ∃ ut, ut = wc := ⟨_, rfl⟩
      subst hut
      have HBpt : Hid (Below up.heap.size up ut) := bel_step HBpq.out hst.bel
      have hq3 := hst.pos
      have hpt := HBpt.out.size
      have HOt := Lib.hid hst.own
      have HKWt := Lib.hid (HKWp.out.below HBpt.out HKWp.out.lt)
      have e0 := (HKWt.out).cell (j := 0) rfl
      have e1 := (HKWt.out).cell (j := 1) rfl
      have f0 := (hst.box).cell (j := 0) rfl
      have f1 := (hst.box).cell (j := 1) rfl
      clear hst
      go_wp2_with fail
      refine (eqHistOut_same Ah Aw nR ch cw R C ut (by omega) (HOt.out.rd (by omega)) ((HOWp.out.below HBpt.out (by omega)).rd (by omega))).mono ?_
      rintro e uu ⟨rfl, hbu⟩
      have HBpu : Hid (Below up.heap.size up uu) := bel_step HBpt.out hbu
      have hpu := HBpu.out.size
      have HKGu := Lib.hid (HKGp.out.below HBpu.out HKGp.out.lt)
      clear hbu e0 e1 f0 f1
      have f0 := (HKGu.out).cell (j := 0) rfl
      have f1 := (HKGu.out).cell (j := 1) rfl
      go_wp2_with fail
      refine (heldHistOut_any Ag lg hg nR cg 1 C uu (by omega) (by omega) (by omega) (HMKp.out.below HBpu.out (by omega))).mono ?_
      rintro e uv ⟨rfl, hbv⟩
      rw [← HMN.out]
      have HBv := Lib.hid (bel_step HBp.out (bel_step HBpu.out hbv))
      clear hbv f0 f1
      go_wp2
      go_ret
      exact ⟨rfl, HBv.out⟩

set_option maxHeartbeats 1000000 in
set_option maxRecDepth 100000 in
theorem lifted (os : Os) (started : os.Started) (H : Type) (enc : TypeId × Value → H) :
    ReturnsInHanded {} Tryz.checked os 7 .any (fun w args => (Rows.fnExactMountWithSpec.pre enc Tryz.prog Tryz.f7 [] false w args ∧ laidMetH Tryz.prog Rows.fnExactMountWithRow.laid w) ∧ sizedMet enc Tryz.prog Tryz.f7 (OpenSpec.ofChange Rows.fnExactMountWithSpec) false w args)
      (Rows.fnExactMountWithSpec.post enc Tryz.prog Tryz.f7 false true false false) := by
  refine returnsInHanded_of_change_and (C := Tryz.checked) (X := fun w _ => laidMetH Tryz.prog Rows.fnExactMountWithRow.laid w) (fun _ _ _ hh h => h.of_heap hh) own started (by kernel_rfl) Tryz.func7
    (ChangeSpec.witness_at (enc := enc) (C := Tryz.checked) (os := os) (X := fun w _ => laidMetH Tryz.prog Rows.fnExactMountWithRow.laid w) false (laidWorld os) #[.agg #[.slice none 0 0], .agg #[.string ByteArray.empty, .string ByteArray.empty]] 8 rfl (by kernel_rfl) (by kernel_rfl) (by kernel_rfl) (by kernel_rfl) (by kernel_rfl) (laidWorld_met os _)) ?_
  intro W base args ds gs before hval0 hW _ _ hL _
  have hval : ∀ (j : Nat) t v, Tryz.f7.params[j]? = some t → args[j]? = some v → Value.okWide Tryz.prog W .any base t v := hval0
  have hW' := hW
  obtain ⟨p, q, hA0, hV0, rfl, hfz, hnd⟩ := hW
  have hA : DataW.TrodAll enc Tryz.prog W 0 (fun _ => true) true Tryz.f7.params.toList args.toList ds p := hA0
  have hV : DataW.TrodVars enc Tryz.prog W (fun _ => true) [nInv, nHist, nRoom] gs q := hV0
  rw [Tryz.params7] at hA hval
  obtain ⟨v0, vs0, d0, ds0, p0, q0, hargs, rfl, rfl, h0, z0⟩ := trodAll_cons hA
  obtain ⟨v1, vs1, d1, ds1, p1, q1, rfl, rfl, rfl, h1, z1⟩ := trodAll_cons z0
  obtain ⟨rfl, rfl, rfl⟩ := trodAll_nil z1
  obtain rfl : args = #[v0, v1] := by cases args; simp_all
  have hL2 : laidMet Tryz.prog [(nInv, .iface "*errors.errorString" (.ptr (.agg [.lit (.string [97, 110, 32, 97, 114, 103, 117, 109, 101, 110, 116, 32, 105, 115, 32, 105, 110, 118, 97, 108, 105, 100])]))), (nRoom, .iface "*errors.errorString" (.ptr (.agg [.lit (.string [116, 104, 101, 114, 101, 32, 105, 115, 32, 110, 111, 32, 98, 108, 111, 99, 107, 32, 102, 111, 114, 32, 116, 104, 101, 32, 110, 101, 120, 116, 32, 112, 97, 103, 101])]))), (nHist, .iface "*errors.errorString" (.ptr (.agg [.lit (.string [116, 104, 101, 32, 114, 101, 99, 111, 114, 100, 115, 32, 97, 114, 101, 32, 110, 111, 32, 118, 97, 108, 105, 100, 32, 104, 105, 115, 116, 111, 114, 121])])))] W ∧ handlesMet Tryz.prog [("errors.errorType", Rows.laid_errors_errorType)] W := hL
  have hG := errType_of_handle rfl hL2.2
  obtain ⟨a0', a1', a2', hS, g0, g1, g2⟩ := sents_of_laid hL2.1
  have vr : ∀ {X : World}, Below W.heap.size W X → ∀ sp : Nat → Bool, DataW.TrodVars enc Tryz.prog X sp [nInv, nHist, nRoom] [tok enc (.iface 383 (.pointer (some a0'))), tok enc (.iface 383 (.pointer (some a2'))), tok enc (.iface 383 (.pointer (some a1')))] [.cell 0 0, .cell 1 0, .cell 2 0] :=
    fun hb sp => vars_readIHR enc (var_below g0 hb) trivial (var_below g1 hb) trivial (var_below g2 hb) trivial sp
  obtain ⟨rfl, rfl⟩ := hV.unique (vr (Below.refl _ _) _)
  have k0 := h0
  have lt0 : ∀ x ∈ p0, x.block < W.heap.size := by obtain ⟨m, hm⟩ := k0; exact DataW.trod_lt m _ _ _ hm
  obtain ⟨A0, n0, c0, X0, rfl, w0, x0⟩ := open_lawsNand (hval 0 97 v0 rfl rfl) h0
  have k1 := h1
  have lt1 : ∀ x ∈ p1, x.block < W.heap.size := by obtain ⟨m, hm⟩ := k1; exact DataW.trod_lt m _ _ _ hm
  obtain ⟨a1, b1, rfl, w1⟩ := open_lawsSlots (hval 1 82 v1 rfl rfl) h1
  clear hA0 hV0 hval0
  refine (walk A0 n0 c0 X0 a1 b1 W w0 x0 w1 hG a0' a1' a2' hS).mono fun e W' ⟨he, bel⟩ => ?_
  subst he
  exact ⟨_, rfl, _, _, _, [], _, _, hW', trodAll_mk1 (shut_bool Tryz.underlying4 _), (trodAll_cons_mk (Below.trod laidOut (by kernel_rfl) (of_decide_eq_true (by kernel_rfl)) k0 bel lt0) (trodAll_cons_mk (Below.trod laidOut (by kernel_rfl) (of_decide_eq_true (by kernel_rfl)) k1 bel lt1) trodAll_mk0)), vr bel _, bel.frame _, fun h => by cases h⟩

set_option maxHeartbeats 16000000 in
theorem over : Rows.FnExactMountWithSaid := by
  refine OpenClaim.holds_of_wide 7 Tryz.f7 rfl rfl rfl rfl rfl rfl rfl ⟨rfl, rfl, rfl, rfl, rfl⟩ rfl rfl rfl rfl rfl (by as_aux_lemma => kernel_rfl) Tryz.func7 ?closed
    (of_decide_eq_true (by as_aux_lemma => kernel_rfl)) (by unfold Func.isWrapper; rw [if_neg (of_decide_eq_false (by as_aux_lemma => kernel_rfl))]; exact ⟨rfl, rfl⟩)
    (fun os started H enc _ => lifted os started H enc)
  case closed =>
    unfold joinedFacts
    simp only [Bool.and_eq_true]
    repeat' apply And.intro
    all_goals (as_aux_lemma => kernel_rfl)

set_option maxHeartbeats 16000000 in
theorem proved : Rows.FnExactMountWithCardSaid :=
  Claim7.holds_tied_plain_at .later [] [.handle, .sentinel, .sentinel, .sentinel] true (true, "bca1a24a9b25c63b1eb183f4cf1d85e64c4149dfea2737a6d570d6f011a92ab5") true
    over (fun _ h => by cases h) (by as_aux_lemma => kernel_rfl) (fun _ h => by cases h) fnExactMountWith_row_tie rfl ⟨rfl, rfl⟩ (by as_aux_lemma => kernel_rfl) rfl
    (fun f fn hf hfn => by
      obtain rfl : f = 7 := Option.some.inj ((show Tryz.prog.funcNamed "loop.example/g00637/laws.FnExactMountWith" = some 7 by kernel_rfl).symm.trans hf) |>.symm
      obtain rfl : fn = Tryz.f7 := (Option.some.inj (Tryz.func7.symm.trans hfn)).symm
      exact ⟨by kernel_rfl, fun j t ht => by
        rw [Tryz.params7] at ht
        have h3 : t = 82 ∨ t = 97 := by
          rcases j with _ | _ | j
          all_goals first | (simp at ht; subst ht; simp) | (simp at ht)
        rcases h3 with rfl | rfl
        · exact (show Tryz.prog.wantsStandIn 82 = false by kernel_rfl)
        · exact (show Tryz.prog.wantsStandIn 97 = false by kernel_rfl)⟩)
    (by as_aux_lemma => kernel_rfl)
#print axioms proved
end Go.Proofs.YtloaeglmngcenaaGreatDoor.fnExactMountWith
