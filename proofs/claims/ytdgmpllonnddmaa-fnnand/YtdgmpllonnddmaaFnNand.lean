/-
  For all strings of bytes code and more, the law FnNand returns true: what the program's functions of chapter 3 answer at the drawn chips is what the model answers; a written page is read back and no other one changes; an erased block is empty; a bad block is not programmed. No condition.
-/
import Derived.Test.YtdgmpllonnddmaaRows
import Derived.Test.YtdgmpllonnddmaaLwFact
import Derived.Deep.DeepCutAuto
import Derived.Deep.CutBlock
import Derived.Test.YtdgmpllonnddmaaDrDraw3
import Derived.Test.YtdgmpllonnddmaaDrDraw2
import Derived.Test.YtdgmpllonnddmaaDrDraw
import Derived.Test.YtdgmpllonnddmaaNdSpec3
import Derived.Test.YtdgmpllonnddmaaNdNew
import Derived.Test.YtdgmpllonnddmaaNdFree
import Derived.Deep.RegionHeld3
import Derived.Lib.QuietBelow
import Derived.BigQuiet
import Derived.Deep.QuietTactic
import Derived.IntWalk
import Derived.WalkKit
import Derived.ProofKit
import Derived.OpenShut
import Derived.ShutString
import Derived.ChangeOld
import Derived.Below
namespace Go.Proofs.Ytdgmpllonnddmaa.fnNand
open Go.ChangeShapes Go.WideShapes Go.ChangeAt Go.RowKit
open Go.ChangeMaps (open_string shut_string)
set_option linter.unusedVariables false

theorem own : ownKnob Try.prog.godebug = none := by kernel_rfl
theorem laidOut : laidOutB Try.prog = true := by kernel_rfl

set_option maxHeartbeats 40000000 in
set_option maxRecDepth 100000 in
theorem walk (A0 : Option Addr) (n0 c0 : Nat) (A1 : Option Addr) (n1 c1 : Nat) (w : World) (w0 : RdBy w w.heap.size A0 n0) (x0 : n0 ≤ maxLen) (w1 : RdBy w w.heap.size A1 n1) (x1 : n1 ≤ maxLen) :
    Calls Try.prog 3 #[.slice A0 n0 c0, .slice A1 n1 c1] w fun e w' => e = .returned (.bool true) ∧ Below w.heap.size w w' := by
  have HW0 := Lib.hid w0; have HW1 := Lib.hid w1
  unfold maxLen at x0 x1
  by_cases hbig : 1048576 < n0
  · go_enter Try.func3, Try.ntmps3
    go_wp2
    go_ret
    exact ⟨rfl, Below.refl _ _⟩
  by_cases hbig1 : 1048576 < n1
  · go_enter Try.func3, Try.ntmps3
    go_wp2
    go_ret
    exact ⟨rfl, Below.refl _ _⟩
  clear w0 w1
  go_enter Try.func3, Try.ntmps3
  go_wp2_with fail
  refine (draw_program A0 n0 c0 _ (by omega) HW0.out).mono ?_
  rintro e w2 ⟨AN, cN, N, b, data, rfl, hdata, ⟨hN1, hNs⟩, hoN, hb2⟩
  have B2 := Lib.hid ((Bg.start w).chipC hb2 (hoN.rd (Nat.le_refl _)) hNs)
  have HNs := Lib.hid hNs
  clear hoN hb2 hNs
  go_wp2_with fail
  have B3 := Lib.hid (B2.out.box 25 [.slice AN N.length cN])
  refine (impl_program AN N.length cN N b data _ (by omega) HNs.out (B3.out.chip (AN, N) (by simp)).1).mono ?_
  rintro e w4 ⟨AX, cX, rfl, hoX, hb4⟩
  have B4 := Lib.hid (B3.out.chipC hb4 (hoX.rd (Nat.le_refl _)) (prog_small HNs.out b hdata))
  clear hoX hb4 B2 B3
  obtain ⟨RX, hRX⟩ : ∃ R, R = progAns N b data := ⟨_, rfl⟩
  rw [← hRX] at B4 ⊢
  have HRX := Lib.hid hRX; clear hRX
  go_wp2_with fail
  have B5 := Lib.hid (B4.out.box 29 [.slice AX RX.nd.length cX, .string RX.data, .int .i64 RX.code])
  refine (draw_erase A1 n1 c1 _ (by omega) (HW1.out.belowB B5.out.bel B5.out.bel.size)).mono ?_
  rintro e w6 ⟨AE, cE, E, c, rfl, ⟨hE1, hEs⟩, hoE, hb6⟩
  have B6 := Lib.hid (B5.out.chipC hb6 (hoE.rd (Nat.le_refl _)) hEs)
  have HEs := Lib.hid hEs
  clear hoE hb6 hEs B4 B5
  go_wp2_with fail
  have B7 := Lib.hid (B6.out.box 25 [.slice AE E.length cE])
  refine (impl_erase AE E.length cE E c _ HEs.out (B7.out.chip (AE, E) (by simp)).1).mono ?_
  rintro e w8 ⟨AY, cY, rfl, hoY, hb8⟩
  have B8 := Lib.hid (B7.out.chipC hb8 (hoY.rd (Nat.le_refl _)) (erase_small HEs.out c))
  clear hoY hb8 B6 B7
  obtain ⟨RY, hRY⟩ : ∃ R, R = eraseAns E c := ⟨_, rfl⟩
  rw [← hRY] at B8 ⊢
  have HRY := Lib.hid hRY; clear hRY
  go_wp2_with fail
  have B9 := Lib.hid (B8.out.box 29 [.slice AY RY.nd.length cY, .string RY.data, .int .i64 RY.code])
  refine (draw_markBad A0 n0 c0 _ (by omega) (HW0.out.belowB B9.out.bel B9.out.bel.size)).mono ?_
  rintro e w10 ⟨AM, cM, M, d, rfl, ⟨hM1, hMs⟩, hoM, hb10⟩
  have B10 := Lib.hid (B9.out.chipC hb10 (hoM.rd (Nat.le_refl _)) hMs)
  have HMs := Lib.hid hMs
  clear hoM hb10 hMs B8 B9
  go_wp2_with fail
  have B11 := Lib.hid (B10.out.box 25 [.slice AM M.length cM])
  refine (impl_markBad AM M.length cM M d _ HMs.out (B11.out.chip (AM, M) (by simp)).1).mono ?_
  rintro e w12 ⟨AZ, cZ, rfl, hoZ, hb12⟩
  have B12 := Lib.hid (B11.out.chipC hb12 (hoZ.rd (Nat.le_refl _)) (mark_small HMs.out d))
  clear hoZ hb12 B10 B11
  obtain ⟨RZ, hRZ⟩ : ∃ R, R = markAns M d := ⟨_, rfl⟩
  rw [← hRZ] at B12 ⊢
  have HRZ := Lib.hid hRZ; clear hRZ
  go_wp2_with fail
  have B13 := Lib.hid (B12.out.box 29 [.slice AZ RZ.nd.length cZ, .string RZ.data, .int .i64 RZ.code])
  refine (draw_pageAt A1 n1 c1 _ (by omega) (HW1.out.belowB B13.out.bel B13.out.bel.size)).mono ?_
  rintro e w14 ⟨AP, cP, P, o, k, rfl, ⟨hP1, hPs⟩, hoP, hb14⟩
  have B14 := Lib.hid (B13.out.chipC hb14 (hoP.rd (Nat.le_refl _)) hPs)
  have HPs := Lib.hid hPs
  clear hoP hb14 hPs B12 B13
  go_wp2_with fail
  have B15 := Lib.hid (B14.out.box 25 [.slice AP P.length cP])
  refine (draw_usedOf A0 n0 c0 _ (by omega) (HW0.out.belowB B15.out.bel B15.out.bel.size)).mono ?_
  rintro e w16 ⟨AU, cU, U, wv, rfl, ⟨hU1, hUs⟩, hoU, hb16⟩
  have B16 := Lib.hid (B15.out.chipC hb16 (hoU.rd (Nat.le_refl _)) hUs)
  have HUs := Lib.hid hUs
  clear hoU hb16 hUs B14 B15
  go_wp2_with fail
  have B17 := Lib.hid (B16.out.box 25 [.slice AU U.length cU])
  refine (draw_freeBlocks A1 n1 c1 _ (by omega) (HW1.out.belowB B17.out.bel B17.out.bel.size)).mono ?_
  rintro e w18 ⟨AF, cF, F, rfl, ⟨hF1, hFs⟩, hoF, hb18⟩
  have B18 := Lib.hid (B17.out.chipC hb18 (hoF.rd (Nat.le_refl _)) hFs)
  have HFs := Lib.hid hFs
  clear hoF hb18 hFs B16 B17
  go_wp2_with fail
  have B19 := Lib.hid (B18.out.box 25 [.slice AF F.length cF])
  refine (draw_nandNew A0 n0 c0 _ (by omega) (HW0.out.belowB B19.out.bel B19.out.bel.size)).mono ?_
  rintro e w20 ⟨blocks, rfl, hbl1, hbl2, hb20⟩
  have B20 := Lib.hid (B19.out.step hb20)
  clear hb20 B18 B19 HW0 HW1
  generalize w2.heap.size = nb at *
  generalize w4.heap.size = xb at *
  generalize w6.heap.size = eb at *
  generalize w8.heap.size = yb at *
  generalize w10.heap.size = mb at *
  generalize w12.heap.size = zb at *
  generalize w14.heap.size = pb at *
  generalize w16.heap.size = ub at *
  generalize w18.heap.size = fb at *
  clear w2 w4 w6 w8 w10 w12 w14 w16 w18 hbig hbig1 x0 x1
  obtain ⟨Q, hQ0, hQs, hQC, hQN, hQX, hQE, hQY, hQM, hQZ, hQP, hQU, hQF, hQB⟩ : ∃ Q : World → Prop, Q w20 ∧ (∀ a b, Q a → Below a.heap.size a b → Q b) ∧ (∀ V, Q V → V.cell? ⟨xb, 0, none⟩ = some (.slice AX RX.nd.length cX) ∧ V.cell? ⟨xb, 1, none⟩ = some (.string RX.data) ∧ V.cell? ⟨xb, 2, none⟩ = some (.int .i64 RX.code) ∧ V.cell? ⟨yb, 0, none⟩ = some (.slice AY RY.nd.length cY) ∧ V.cell? ⟨yb, 1, none⟩ = some (.string RY.data) ∧ V.cell? ⟨yb, 2, none⟩ = some (.int .i64 RY.code) ∧ V.cell? ⟨zb, 0, none⟩ = some (.slice AZ RZ.nd.length cZ) ∧ V.cell? ⟨zb, 1, none⟩ = some (.string RZ.data) ∧ V.cell? ⟨zb, 2, none⟩ = some (.int .i64 RZ.code) ∧ V.cell? ⟨nb, 0, none⟩ = some (.slice AN N.length cN) ∧ V.cell? ⟨eb, 0, none⟩ = some (.slice AE E.length cE) ∧ V.cell? ⟨mb, 0, none⟩ = some (.slice AM M.length cM) ∧ V.cell? ⟨pb, 0, none⟩ = some (.slice AP P.length cP) ∧ V.cell? ⟨ub, 0, none⟩ = some (.slice AU U.length cU) ∧ V.cell? ⟨fb, 0, none⟩ = some (.slice AF F.length cF)) ∧ (∀ V, Q V → RdBk V V.heap.size AN N.length N) ∧ (∀ V, Q V → RdBk V V.heap.size AX RX.nd.length RX.nd) ∧ (∀ V, Q V → RdBk V V.heap.size AE E.length E) ∧ (∀ V, Q V → RdBk V V.heap.size AY RY.nd.length RY.nd) ∧ (∀ V, Q V → RdBk V V.heap.size AM M.length M) ∧ (∀ V, Q V → RdBk V V.heap.size AZ RZ.nd.length RZ.nd) ∧ (∀ V, Q V → RdBk V V.heap.size AP P.length P) ∧ (∀ V, Q V → RdBk V V.heap.size AU U.length U) ∧ (∀ V, Q V → RdBk V V.heap.size AF F.length F) ∧ (∀ V, Q V → Below w.heap.size w V) := by
    refine ⟨fun V => Bg w V _ _, B20.out, fun a b h hb => h.step hb, fun V h => ⟨(h.blk (xb, 29, [.slice AX RX.nd.length cX, .string RX.data, .int .i64 RX.code]) (by simp)).cell rfl, (h.blk (xb, 29, [.slice AX RX.nd.length cX, .string RX.data, .int .i64 RX.code]) (by simp)).cell rfl, (h.blk (xb, 29, [.slice AX RX.nd.length cX, .string RX.data, .int .i64 RX.code]) (by simp)).cell rfl, (h.blk (yb, 29, [.slice AY RY.nd.length cY, .string RY.data, .int .i64 RY.code]) (by simp)).cell rfl, (h.blk (yb, 29, [.slice AY RY.nd.length cY, .string RY.data, .int .i64 RY.code]) (by simp)).cell rfl, (h.blk (yb, 29, [.slice AY RY.nd.length cY, .string RY.data, .int .i64 RY.code]) (by simp)).cell rfl, (h.blk (zb, 29, [.slice AZ RZ.nd.length cZ, .string RZ.data, .int .i64 RZ.code]) (by simp)).cell rfl, (h.blk (zb, 29, [.slice AZ RZ.nd.length cZ, .string RZ.data, .int .i64 RZ.code]) (by simp)).cell rfl, (h.blk (zb, 29, [.slice AZ RZ.nd.length cZ, .string RZ.data, .int .i64 RZ.code]) (by simp)).cell rfl, (h.blk (nb, 25, [.slice AN N.length cN]) (by simp)).cell rfl, (h.blk (eb, 25, [.slice AE E.length cE]) (by simp)).cell rfl, (h.blk (mb, 25, [.slice AM M.length cM]) (by simp)).cell rfl, (h.blk (pb, 25, [.slice AP P.length cP]) (by simp)).cell rfl, (h.blk (ub, 25, [.slice AU U.length cU]) (by simp)).cell rfl, (h.blk (fb, 25, [.slice AF F.length cF]) (by simp)).cell rfl⟩, fun V h => (h.chip (AN, N) (by simp)).1, fun V h => (h.chip (AX, RX.nd) (by simp)).1, fun V h => (h.chip (AE, E) (by simp)).1, fun V h => (h.chip (AY, RY.nd) (by simp)).1, fun V h => (h.chip (AM, M) (by simp)).1, fun V h => (h.chip (AZ, RZ.nd) (by simp)).1, fun V h => (h.chip (AP, P) (by simp)).1, fun V h => (h.chip (AU, U) (by simp)).1, fun V h => (h.chip (AF, F) (by simp)).1, fun V h => h.bel⟩
  clear B20
  have HSQ : Hid (∀ V, Q V → V.cell? ⟨xb, 0, none⟩ = some (.slice AX RX.nd.length cX) ∧ V.cell? ⟨xb, 1, none⟩ = some (.string RX.data) ∧ V.cell? ⟨xb, 2, none⟩ = some (.int .i64 RX.code) ∧ V.cell? ⟨yb, 0, none⟩ = some (.slice AY RY.nd.length cY) ∧ V.cell? ⟨yb, 1, none⟩ = some (.string RY.data) ∧ V.cell? ⟨yb, 2, none⟩ = some (.int .i64 RY.code) ∧ V.cell? ⟨zb, 0, none⟩ = some (.slice AZ RZ.nd.length cZ) ∧ V.cell? ⟨zb, 1, none⟩ = some (.string RZ.data) ∧ V.cell? ⟨zb, 2, none⟩ = some (.int .i64 RZ.code) ∧ V.cell? ⟨nb, 0, none⟩ = some (.slice AN N.length cN) ∧ V.cell? ⟨eb, 0, none⟩ = some (.slice AE E.length cE) ∧ V.cell? ⟨mb, 0, none⟩ = some (.slice AM M.length cM) ∧ V.cell? ⟨pb, 0, none⟩ = some (.slice AP P.length cP) ∧ V.cell? ⟨ub, 0, none⟩ = some (.slice AU U.length cU) ∧ V.cell? ⟨fb, 0, none⟩ = some (.slice AF F.length cF) ∧ Q V) := fun V h => by obtain ⟨a1, a2, a3, a4, a5, a6, a7, a8, a9, a10, a11, a12, a13, a14, a15⟩ := hQC V h; exact ⟨a1, a2, a3, a4, a5, a6, a7, a8, a9, a10, a11, a12, a13, a14, a15, h⟩
  have HQS : Hid (∀ V, (V.cell? ⟨xb, 0, none⟩ = some (.slice AX RX.nd.length cX) ∧ V.cell? ⟨xb, 1, none⟩ = some (.string RX.data) ∧ V.cell? ⟨xb, 2, none⟩ = some (.int .i64 RX.code) ∧ V.cell? ⟨yb, 0, none⟩ = some (.slice AY RY.nd.length cY) ∧ V.cell? ⟨yb, 1, none⟩ = some (.string RY.data) ∧ V.cell? ⟨yb, 2, none⟩ = some (.int .i64 RY.code) ∧ V.cell? ⟨zb, 0, none⟩ = some (.slice AZ RZ.nd.length cZ) ∧ V.cell? ⟨zb, 1, none⟩ = some (.string RZ.data) ∧ V.cell? ⟨zb, 2, none⟩ = some (.int .i64 RZ.code) ∧ V.cell? ⟨nb, 0, none⟩ = some (.slice AN N.length cN) ∧ V.cell? ⟨eb, 0, none⟩ = some (.slice AE E.length cE) ∧ V.cell? ⟨mb, 0, none⟩ = some (.slice AM M.length cM) ∧ V.cell? ⟨pb, 0, none⟩ = some (.slice AP P.length cP) ∧ V.cell? ⟨ub, 0, none⟩ = some (.slice AU U.length cU) ∧ V.cell? ⟨fb, 0, none⟩ = some (.slice AF F.length cF) ∧ Q V) → Q V) := fun V h => h.2.2.2.2.2.2.2.2.2.2.2.2.2.2.2
  have HQs := Lib.hid hQs; have HQB := Lib.hid hQB
  have HQN := Lib.hid hQN
  have HQX := Lib.hid hQX
  have HQE := Lib.hid hQE
  have HQY := Lib.hid hQY
  have HQM := Lib.hid hQM
  have HQZ := Lib.hid hQZ
  have HQP := Lib.hid hQP
  have HQU := Lib.hid hQU
  have HQF := Lib.hid hQF
  have HXs : Hid (Small RX.nd) := by rw [HRX.out]; exact prog_small HNs.out b hdata
  have HXo : Hid (RX.code = 0 → NdOk RX.nd) := by rw [HRX.out]; exact prog_ok
  have HYs : Hid (Small RY.nd) := by rw [HRY.out]; exact erase_small HEs.out c
  have HYo : Hid (RY.code = 0 → NdOk RY.nd) := by rw [HRY.out]; exact erase_ok
  have HZs : Hid (Small RZ.nd) := by rw [HRZ.out]; exact mark_small HMs.out d
  have HZo : Hid (RZ.code = 0 → NdOk RZ.nd) := by rw [HRZ.out]; exact mark_ok
  clear hQs hQC hQB hQN hQX hQE hQY hQM hQZ hQP hQU hQF
  have q0 := HSQ.out _ hQ0
  go_wp2_with fail
  have HQ20 := Lib.hid hQ0
  clear q0 hQ0
  dsimp only [List.append_eq, List.cons_append, List.nil_append]
  go_cut [139] (fun v wx => v = .bool false ∧ Q wx)
  case first =>
    as_aux_lemma =>
      have hs0 := HSQ.out _ (HQs.out _ _ HQ20.out (Below.refl _ _).drew)
      go_region_held3 (fun V => V.cell? ⟨xb, 0, none⟩ = some (.slice AX RX.nd.length cX) ∧ V.cell? ⟨xb, 1, none⟩ = some (.string RX.data) ∧ V.cell? ⟨xb, 2, none⟩ = some (.int .i64 RX.code) ∧ V.cell? ⟨yb, 0, none⟩ = some (.slice AY RY.nd.length cY) ∧ V.cell? ⟨yb, 1, none⟩ = some (.string RY.data) ∧ V.cell? ⟨yb, 2, none⟩ = some (.int .i64 RY.code) ∧ V.cell? ⟨zb, 0, none⟩ = some (.slice AZ RZ.nd.length cZ) ∧ V.cell? ⟨zb, 1, none⟩ = some (.string RZ.data) ∧ V.cell? ⟨zb, 2, none⟩ = some (.int .i64 RZ.code) ∧ V.cell? ⟨nb, 0, none⟩ = some (.slice AN N.length cN) ∧ V.cell? ⟨eb, 0, none⟩ = some (.slice AE E.length cE) ∧ V.cell? ⟨mb, 0, none⟩ = some (.slice AM M.length cM) ∧ V.cell? ⟨pb, 0, none⟩ = some (.slice AP P.length cP) ∧ V.cell? ⟨ub, 0, none⟩ = some (.slice AU U.length cU) ∧ V.cell? ⟨fb, 0, none⟩ = some (.slice AF F.length cF) ∧ Q V)
        (first | exact hs0 | exact hs21 | exact hs22 | exact hs23 | exact hs24 | exact hs25 | exact hs26 | exact hs27 | exact hs28 | exact hs29 | exact hs30 | exact hs31 | exact hs32 | exact hs33 | exact hs34 | exact hs35 | exact hs36 | exact hs37 | exact hs38)
        (first
          | (go_at_call 15
             refine (spec_program AN N.length cN N b data _ (by omega) HNs.out (HQN.out _ (HQS.out _ (by assumption)))).mono ?_
             rintro e w21 ⟨AX', cX', rfl, ho, hb⟩
             rw [← HRX.out] at ho ⊢
             have hs21 := HSQ.out _ (HQs.out _ _ (HQS.out _ (by assumption)) hb)
             have hr21 := Lib.hid (ho.rd (Nat.le_refl _))
             clear ho hb)
          | (go_at_call 16
             refine (spec_erase AE E.length cE E c _ HEs.out (HQE.out _ (HQS.out _ (by assumption)))).mono ?_
             rintro e w23 ⟨AY', cY', rfl, ho, hb⟩
             rw [← HRY.out] at ho ⊢
             have hs23 := HSQ.out _ (HQs.out _ _ (HQS.out _ (by assumption)) hb)
             have hr23 := Lib.hid (ho.rd (Nat.le_refl _))
             clear ho hb)
          | (go_at_call 17
             refine (spec_markBad AM M.length cM M d _ HMs.out (HQM.out _ (HQS.out _ (by assumption)))).mono ?_
             rintro e w25 ⟨AZ', cZ', rfl, ho, hb⟩
             rw [← HRZ.out] at ho ⊢
             have hs25 := HSQ.out _ (HQs.out _ _ (HQS.out _ (by assumption)) hb)
             have hr25 := Lib.hid (ho.rd (Nat.le_refl _))
             clear ho hb)
          | (go_at_call 18
             refine (impl_pageAt AP P.length cP P o k _ HPs.out (HQP.out _ (HQS.out _ (by assumption)))).mono ?_
             rintro e w27 ⟨AG, cG, rfl, ho, hb⟩
             have hs27 := HSQ.out _ (HQs.out _ _ (HQS.out _ (by assumption)) hb)
             have hr27 := Lib.hid (ho.rd (Nat.le_refl _))
             clear ho hb)
          | (go_at_call 19
             refine (spec_pageAt AP P.length cP P o k _ HPs.out (HQP.out _ (HQS.out _ (by assumption)))).mono ?_
             rintro e w28 ⟨AG', cG', rfl, ho, hb⟩
             have hs28 := HSQ.out _ (HQs.out _ _ (HQS.out _ (by assumption)) hb)
             have hr28 := Lib.hid (ho.rd (Nat.le_refl _))
             have hr28' := Lib.hid ((hr27.out.below hb).mono hb.size)
             clear ho hb)
          | (go_at_call 14
             first
               | (refine (lwNands_same AG AG' _ cG cG' (pageAns P o k).nd (pageAns P o k).data (pageAns P o k).code _ (page_small HPs.out o k) page_ok hr28'.out hr28.out).mono ?_
                  rintro e w29 ⟨rfl, hb⟩
                  have hs29 := HSQ.out _ (HQs.out _ _ (HQS.out _ (by assumption)) hb)
                  clear hb)
               | (refine (lwNands_same AZ AZ' _ cZ cZ' RZ.nd RZ.data RZ.code _ HZs.out HZo.out (HQZ.out _ (HQS.out _ (by assumption))) hr25.out).mono ?_
                  rintro e w26 ⟨rfl, hb⟩
                  have hs26 := HSQ.out _ (HQs.out _ _ (HQS.out _ (by assumption)) hb)
                  clear hb)
               | (refine (lwNands_same AY AY' _ cY cY' RY.nd RY.data RY.code _ HYs.out HYo.out (HQY.out _ (HQS.out _ (by assumption))) hr23.out).mono ?_
                  rintro e w24 ⟨rfl, hb⟩
                  have hs24 := HSQ.out _ (HQs.out _ _ (HQS.out _ (by assumption)) hb)
                  clear hb)
               | (refine (lwNands_same AX AX' _ cX cX' RX.nd RX.data RX.code _ HXs.out HXo.out (HQX.out _ (HQS.out _ (by assumption))) hr21.out).mono ?_
                  rintro e w22 ⟨rfl, hb⟩
                  have hs22 := HSQ.out _ (HQs.out _ _ (HQS.out _ (by assumption)) hb)
                  clear hb))
          | (go_at_call 20
             refine (impl_usedOf AU U.length cU U wv _ HUs.out (HQU.out _ (HQS.out _ (by assumption)))).mono ?_
             rintro e w30 ⟨rfl, hb⟩
             have hs30 := HSQ.out _ (HQs.out _ _ (HQS.out _ (by assumption)) hb)
             clear hb)
          | (go_at_call 21
             refine (spec_usedOf AU U.length cU U wv _ HUs.out (HQU.out _ (HQS.out _ (by assumption)))).mono ?_
             rintro e w31 ⟨rfl, hb⟩
             have hs31 := HSQ.out _ (HQs.out _ _ (HQS.out _ (by assumption)) hb)
             clear hb)
          | (go_at_call 22
             refine (impl_freeBlocks AF F.length cF F _ HFs.out (HQF.out _ (HQS.out _ (by assumption)))).mono ?_
             rintro e w32 ⟨rfl, hb⟩
             have hs32 := HSQ.out _ (HQs.out _ _ (HQS.out _ (by assumption)) hb)
             clear hb)
          | (go_at_call 23
             refine (spec_freeBlocks AF F.length cF F _ HFs.out (HQF.out _ (HQS.out _ (by assumption)))).mono ?_
             rintro e w33 ⟨rfl, hb⟩
             have hs33 := HSQ.out _ (HQs.out _ _ (HQS.out _ (by assumption)) hb)
             clear hb)
          | (go_at_call 25
             refine (impl_nandNew blocks _).mono ?_
             rintro e w34 ⟨AH, cH, rfl, ho, hb⟩
             have hs34 := HSQ.out _ (HQs.out _ _ (HQS.out _ (by assumption)) hb)
             have hr34 := Lib.hid (ho.rd (Nat.le_refl _))
             clear ho hb)
          | (go_at_call 26
             refine (spec_nandNew blocks _).mono ?_
             rintro e w35 ⟨AH', cH', rfl, ho, hb⟩
             have hs35 := HSQ.out _ (HQs.out _ _ (HQS.out _ (by assumption)) hb)
             have hr35 := Lib.hid (ho.rd (Nat.le_refl _))
             have hr35' := Lib.hid ((hr34.out.below hb).mono hb.size)
             clear ho hb)
          | (go_at_call 24
             refine (lwNand_same AH AH' _ cH cH' (newNd blocks) _ (new_small blocks) hr35'.out hr35.out).mono ?_
             rintro e w36 ⟨rfl, hb⟩
             have hs36 := HSQ.out _ (HQs.out _ _ (HQS.out _ (by assumption)) hb)
             clear hb)
          | (go_at_call 27
             refine (impl_nandRight AN N.length cN N _ HNs.out (HQN.out _ (HQS.out _ (by assumption)))).mono ?_
             rintro e w37 ⟨rfl, hb⟩
             have hs37 := HSQ.out _ (HQs.out _ _ (HQS.out _ (by assumption)) hb)
             clear hb)
          | (go_at_call 28
             refine (spec_nandRight AN N.length cN N _ HNs.out (HQN.out _ (HQS.out _ (by assumption)))).mono ?_
             rintro e w38 ⟨rfl, hb⟩
             have hs38 := HSQ.out _ (HQs.out _ _ (HQS.out _ (by assumption)) hb)
             clear hb))
      go_wp2_with fail
      go_meet
      exact ⟨rfl, HQS.out _ hs38⟩
  case rest =>
    obtain ⟨rfl, hq⟩ := hcut
    have HQc := Lib.hid hq
    obtain ⟨x0, x1, x2, y0, y1, y2, z0, z1, z2, n0', e0, m0, p0, u0, f0, -⟩ := HSQ.out _ hq
    clear hq HQ20
    have HMP : Hid (RZ.code = 0 → (progAns RZ.nd d ⟨#[120]⟩).code = 11) := by rw [HRZ.out]; exact fun h => mark_then_prog h (by simp [ByteArray.size])
    have HEP : Hid (RY.code = 0 → usedAns RY.nd c = 0 ∧ ∃ k : Nat, c = (k : Int) ∧ k < E.length ∧ RY.nd.length = E.length ∧ (RY.nd.getD k zeroBk).erases = (E.getD k zeroBk).erases + 1 ∧ 0 ≤ (E.getD k zeroBk).erases ∧ (E.getD k zeroBk).erases ≤ 1000000) := by rw [HRY.out]; exact erase_then
    go_upto_region 15 with fail
    go_cut [150] (fun v wx => v = .bool false ∧ Q wx)
    case first =>
      as_aux_lemma =>
        clear HEP
        by_cases hz : RZ.code = 0
        · have hzz : (RZ.code == 0) = true := by simpa using hz
          have hfc := field_code
          go_wp2_with fail
          refine (impl_program AZ RZ.nd.length cZ RZ.nd d ⟨#[120]⟩ _ (by simp [ByteArray.size]) HZs.out (HQZ.out _ HQc.out)).mono ?_
          rintro e w40 ⟨AV, cV, rfl, -, hb⟩
          rw [HMP.out hz]
          have HQ40 := Lib.hid (HQs.out _ _ HQc.out hb)
          generalize progAns RZ.nd d ⟨#[120]⟩ = RV
          clear hb hz hzz HMP
          go_wp2_with fail
          go_meet
          exact ⟨by simp, HQ40.out⟩
        · have hzz : (RZ.code == 0) = false := by simpa using hz
          clear hz HMP
          go_wp2_with fail
          go_meet
          exact ⟨by simp, HQc.out⟩
    case rest =>
      obtain ⟨rfl, hq⟩ := hcut
      clear HMP HQc x0 x1 x2 y0 y1 y2 z0 z1 z2 n0' e0 m0 p0 u0 f0
      have HQ40 := Lib.hid hq
      obtain ⟨x0, x1, x2, y0, y1, y2, z0, z1, z2, n0', e0, m0, p0, u0, f0, -⟩ := HSQ.out _ hq
      clear hq x0 x1 x2 z0 z1 z2 n0' m0 p0 u0 f0
      go_upto_region 17 with fail
      generalize wc = w40 at *
      go_cut [177] (fun v wx => v = .bool false ∧ Q wx)
      case first =>
        as_aux_lemma =>
          by_cases hy : RY.code = 0
          · skip
            obtain ⟨hu0, k, hck, hkE, hlen, her, her0, her1⟩ := HEP.out hy
            obtain ⟨gY, oY, pY, qY, hAY, -, hcY, -⟩ := (HQY.out _ HQ40.out).2 (by omega)
            obtain ⟨gE, oE, pE, qE, hAE, -, hcE, -⟩ := (HQE.out _ HQ40.out).2 (by omega)
            have cy := hcY (k * 3 + 1) (by omega)
            have ce := hcE (k * 3 + 1) (by omega)
            rw [bkF_1, her, ← Nat.add_assoc] at cy
            rw [bkF_1, ← Nat.add_assoc] at ce
            have hi1 : (k : Int) < (RY.nd.length : Int) := by omega
            have hi2 : (k : Int) < (E.length : Int) := by omega
            have HU0 := Lib.hid hu0
            clear hcY hcE her hu0 hlen hkE
            subst hck
            rw [hAY] at y0
            rw [hAE] at e0
            generalize (E.getD k zeroBk).erases = er at *
            have hwr : IntKind.i64.wrap (er + 1) = er + 1 := IntWalk.i64_in _ (by omega)
            have hyy : (RY.code == 0) = true := by simpa using hy
            have y0' := cell_regrown y0; have y1' := cell_regrown y1; have y2' := cell_regrown y2; have e0' := cell_regrown e0; have cy' := cell_regrown cy; have ce' := cell_regrown ce
            refine wp_region_quiet_below (by kernel_rfl) (by kernel_rfl) ?_
            repeat (go_big_quiet_step ((go_at_call 20; exact Calls.regrown_of ((impl_usedOf _ RY.nd.length cY RY.nd (k : Int) _ HYs.out (hAY ▸ HQY.out _ (HQs.out _ _ HQ40.out (below_regrown _ _ _)))).mono (fun e w' h => by rw [HU0.out] at h; exact h)))))
            refine wpQuiet_nil ?_
            intro w41 hw'
            have hb : Below w40.heap.size w40 w41 := by obtain ⟨⟨dq, osq⟩, rfl⟩ := hw'; exact below_regrown w40 dq osq
            have HQ41 := Lib.hid (HQs.out _ _ HQ40.out hb)
            clear hw' hb y0' y1' y2' e0' cy' ce'
            go_wp2_with fail
            go_meet
            exact ⟨by simp, HQ41.out⟩
          · skip
            have hyy : (RY.code == 0) = false := by simpa using hy
            go_quiet (fail)
            have HQ41 : Hid (Q (w40.drewN nq)) := HQs.out _ _ HQ40.out ⟨rfl, rfl, rfl, Nat.le_refl _, fun _ _ => rfl⟩
            go_wp2_with fail
            go_meet
            exact ⟨by simp, HQ41.out⟩
      case rest =>
        obtain ⟨rfl, hq⟩ := hcut
        have HQ41 := Lib.hid hq
        clear hq HQ40 HEP y0 y1 y2 e0
        have hfd := field_data
        generalize wc = w41 at *
        as_aux_lemma =>
          obtain ⟨x0, x1, x2, -, -, -, -, -, -, n0', -⟩ := HSQ.out _ HQ41.out
          by_cases hx : RX.code = 0
          case neg =>
            have hxx : (RX.code != 0) = true := by simpa using hx
            go_wp2
            go_ret
            exact ⟨rfl, HQB.out _ HQ41.out⟩
          have hxx : (RX.code != 0) = false := by simpa using hx
          have HKP : Hid (∀ i j : Int, (pageAns N i j).code = 0 → (pageAns RX.nd i j).data = (pageAns N i j).data) := by
            have h := hx; show ∀ i j : Int, _; rw [HRX.out] at h ⊢; exact fun i j hp => prog_keeps h hp
          have HPR : Hid ((pageAns RX.nd b (usedAns N b)).data = data ∧ usedAns RX.nd b = usedAns N b + 1 ∧ 0 ≤ usedAns N b ∧ usedAns N b < 4) := by
            have h := hx; show _ ∧ _; rw [HRX.out] at h ⊢; exact prog_reads h
          go_wp2_with fail
          clear x0 x1 x2 n0' hxx hx
          go_loopw [22] (fun vi wr => ∃ i : Nat, i ≤ N.length ∧ vi = .int .i64 (i : Nat) ∧ Q wr) (fun vi _ => N.length - (intOf vi).toNat)
          case atStart => exact ⟨0, by omega, rfl, HQ41.out⟩
          case round =>
            obtain ⟨i, hi, rfl, hq⟩ := hrel
            have HQr := Lib.hid hq
            obtain ⟨x0, x1, x2, -, -, -, -, -, -, n0', -⟩ := HSQ.out _ hq
            clear hq HQ41
            by_cases hlt : i < N.length
            · have hltI : (i : Int) < (N.length : Int) := by omega
              have HLT := Lib.hid hlt
              go_wp2_with fail
              clear x0 x1 x2 n0' hltI
              go_loopw [23] (fun vj wi => ∃ j : Nat, j ≤ 4 ∧ vj = .int .i64 (j : Nat) ∧ Q wi) (fun vj _ => 4 - (intOf vj).toNat)
              case atStart => exact ⟨0, by omega, rfl, HQr.out⟩
              case round =>
                obtain ⟨j, hj, rfl, hq⟩ := hrel
                have HQi := Lib.hid hq
                obtain ⟨x0, x1, x2, -, -, -, -, -, -, n0', -⟩ := HSQ.out _ hq
                clear hq HQr
                by_cases hlj : j < 4
                · have hljI : (j : Int) < 4 := by omega
                  go_wp2_with fail
                  refine (spec_pageAt AN N.length cN N (i : Int) (j : Int) _ HNs.out (HQN.out _ HQi.out)).mono ?_
                  rintro e w50 ⟨AW, cW, rfl, -, hb⟩
                  have HQ50 := Lib.hid (HQs.out _ _ HQi.out hb)
                  have HKW := Lib.hid (HKP.out (i : Int) (j : Int))
                  generalize pageAns N (i : Int) (j : Int) = RW at HKW ⊢
                  clear hb HQi x0 x1 x2 n0'
                  go_wp2_with fail
                  have HQV := Lib.hid (HQs.out _ _ HQ50.out ((Below.refl _ _).alloc (Nat.le_refl _) (.cells #[.slice AW RW.nd.length cW, .string RW.data, .int .i64 RW.code] 29)))
                  have HWV := Lib.hid (isBlk_new w50 29 [.slice AW RW.nd.length cW, .string RW.data, .int .i64 RW.code])
                  generalize hV : w50.alloc _ = V at HQV HWV ⊢
                  generalize w50.heap.size = wb at *
                  clear hV HQ50
                  obtain ⟨a0, a1, a2, -, -, -⟩ := blk3 HWV.out
                  obtain ⟨x0, -⟩ := HSQ.out _ HQV.out
                  by_cases hw : RW.code = 0
                  · have hww : (RW.code == 0) = true := by simpa using hw
                    have HST : Hid (∀ U, Below V.heap.size V U → U.cell? ⟨xb, 0, none⟩ = some (.slice AX RX.nd.length cX) ∧ U.cell? ⟨wb, 1, none⟩ = some (.string RW.data) ∧ U.cell? ⟨wb, 2, none⟩ = some (.int .i64 RW.code) ∧ Q U) := fun U hU => by
                      have q := HQs.out _ _ HQV.out hU
                      obtain ⟨b0, b1, b2, -, -, -⟩ := blk3 (HWV.out.below hU HWV.out.lt)
                      exact ⟨(HSQ.out _ q).1, b1, b2, q⟩
                    have hs0 := HST.out _ (Below.refl _ _).drew
                    go_region_held3 (fun U => U.cell? ⟨xb, 0, none⟩ = some (.slice AX RX.nd.length cX) ∧ U.cell? ⟨wb, 1, none⟩ = some (.string RW.data) ∧ U.cell? ⟨wb, 2, none⟩ = some (.int .i64 RW.code) ∧ Q U)
                      (first | exact hs0 | exact hs51)
                      (first
                        | (go_at_call 18
                           refine (impl_pageAt AX RX.nd.length cX RX.nd (i : Int) (j : Int) _ HXs.out (HQX.out _ hs0.2.2.2)).mono ?_
                           rintro e w51 ⟨AG, cG, rfl, -, hb⟩
                           rw [HKW.out hw]
                           generalize pageAns RX.nd (i : Int) (j : Int) = RG
                           have hs51 := HST.out _ ((Below.refl V.heap.size V).drew.trans hb)
                           clear hb))
                    go_wp2
                    go_roundw
                    case rel => exact ⟨j + 1, by omega, by go_num, hs51.2.2.2⟩
                    case measure => simp [intOf]; omega
                  · have hww : (RW.code == 0) = false := by simpa using hw
                    go_quiet (fail)
                    have HQn : Hid (Q (V.drewN nq)) := HQs.out _ _ HQV.out ⟨rfl, rfl, rfl, Nat.le_refl _, fun _ _ => rfl⟩
                    generalize V.drewN nq = U at *
                    go_wp2
                    go_roundw
                    case rel => exact ⟨j + 1, by omega, by go_num, HQn.out⟩
                    case measure => simp [intOf]; omega
                · obtain rfl : j = 4 := by omega
                  have hib : (i : Int) < 1048576 := by have h1 := HLT.out; have h2 := HNs.out.1; omega
                  go_wp2
                  go_roundw
                  case rel => exact ⟨i + 1, HLT.out, by go_num, HQi.out⟩
                  case measure => have h1 := HLT.out; simp [intOf]; omega
            · obtain rfl : i = N.length := by omega
              obtain ⟨r1, r2, r3, r4⟩ := HPR.out
              have R1 := Lib.hid r1; have R2 := Lib.hid r2
              clear r1 r2 HPR HKP
              generalize hun : usedAns N b = un at *
              have HUN := Lib.hid hun; clear hun
              have hwr : IntKind.i64.wrap (un + 1) = un + 1 := IntWalk.i64_in _ (by omega)
              go_wp2_with fail
              have HST : Hid (∀ U, Below wr.heap.size wr U → U.cell? ⟨xb, 0, none⟩ = some (.slice AX RX.nd.length cX) ∧ U.cell? ⟨nb, 0, none⟩ = some (.slice AN N.length cN) ∧ Q U) := fun U hU => by
                have q := HQs.out _ _ HQr.out hU
                obtain ⟨b0, -, -, -, -, -, -, -, -, b1, -⟩ := HSQ.out _ q
                exact ⟨b0, b1, q⟩
              have hs0 := HST.out _ (Below.refl _ _).drew
              have HB0 : Hid (Below wr.heap.size wr wr.drew) := (Below.refl _ _).drew
              go_region_held3 (fun U => U.cell? ⟨xb, 0, none⟩ = some (.slice AX RX.nd.length cX) ∧ U.cell? ⟨nb, 0, none⟩ = some (.slice AN N.length cN) ∧ Q U)
                (first | exact hs0 | exact hs60 | exact hs61 | exact hs62 | exact hs63)
                (first
                  | (go_at_call 18
                     refine (impl_pageAt AX RX.nd.length cX RX.nd b un _ HXs.out (HQX.out _ hs60.2.2)).mono ?_
                     rintro e w61 ⟨AG, cG, rfl, -, hb⟩
                     rw [R1.out]
                     generalize pageAns RX.nd b un = RG
                     have HB61 : Hid (Below wr.heap.size wr w61) := bel_step HB60.out hb
                     have hs61 := HST.out _ HB61.out
                     clear hb)
                  | (go_at_call 20
                     refine (impl_usedOf AX RX.nd.length cX RX.nd b _ HXs.out (HQX.out _ hs61.2.2)).mono ?_
                     rintro e w62 ⟨rfl, hb⟩
                     rw [R2.out]
                     have HB62 : Hid (Below wr.heap.size wr w62) := bel_step HB61.out hb
                     have hs62 := HST.out _ HB62.out
                     clear hb)
                  | (go_at_call 21
                     first
                       | (refine (spec_usedOf AN N.length cN N b _ HNs.out (HQN.out _ hs62.2.2)).mono ?_
                          rintro e w63 ⟨rfl, hb⟩
                          rw [HUN.out]
                          have HB63 : Hid (Below wr.heap.size wr w63) := bel_step HB62.out hb
                          have hs63 := HST.out _ HB63.out
                          clear hb)
                       | (refine (spec_usedOf AN N.length cN N b _ HNs.out (HQN.out _ hs0.2.2)).mono ?_
                          rintro e w60 ⟨rfl, hb⟩
                          rw [HUN.out]
                          have HB60 : Hid (Below wr.heap.size wr w60) := bel_step HB0.out hb
                          have hs60 := HST.out _ HB60.out
                          clear hb)))
              go_wp2
              go_ret
              exact ⟨by simp, bel_step (HQB.out _ HQr.out) HB63.out⟩

set_option maxRecDepth 100000 in
theorem lifted (os : Os) (started : os.Started) (H : Type) (enc : TypeId × Value → H) :
    ReturnsInHanded {} Try.checked os 3 .any (Rows.fnNandSpec.pre6 enc Try.prog Try.f3 Rows.fnNandRow.domain false) (Rows.fnNandSpec.post enc Try.prog Try.f3 false true false false) := by
  refine returnsInHanded_of_change (C := Try.checked) own started (by kernel_rfl) Try.func3
    (ChangeSpec.witness6 (enc := enc) (C := Try.checked) false ⟨#[], #[.slice none 0 0, .slice none 0 0], []⟩ 8 (by kernel_rfl) (by kernel_rfl) (by kernel_rfl) (by kernel_rfl)) ?_
  intro W base args ds gs before hval0 hW hcnd _
  have hval : ∀ (j : Nat) t v, Try.f3.params[j]? = some t → args[j]? = some v → Value.okWide Try.prog W .any base t v := hval0
  have hW' := hW
  obtain ⟨p, q, hA0, hV, rfl, hfz, hnd⟩ := hW
  have hA : DataW.TrodAll enc Try.prog W 0 (fun _ => true) true Try.f3.params.toList args.toList ds p := hA0
  rw [Try.params3] at hA hval
  obtain ⟨v0, vs0, d0, ds0, p0, q0, hargs, rfl, rfl, h0, r0⟩ := trodAll_cons hA
  obtain ⟨v1, vs1, d1, ds1, p1, q1, rfl, rfl, rfl, h1, r1⟩ := trodAll_cons r0
  obtain ⟨rfl, rfl, rfl⟩ := trodAll_nil r1
  obtain rfl : args = #[v0, v1] := by cases args; simp_all
  obtain ⟨rfl, rfl⟩ := trodVars_none hV
  have k0 := h0
  have lt0 : ∀ x ∈ p0, x.block < W.heap.size := by obtain ⟨m, hm⟩ := k0; exact DataW.trod_lt m _ _ _ hm
  obtain ⟨A0, n0, c0, rfl, x0, w0⟩ := open_bytesV Try.underlying22 Try.underlying5 (by kernel_rfl) (hval 0 22 v0 rfl rfl) h0
  have k1 := h1
  have lt1 : ∀ x ∈ p1, x.block < W.heap.size := by obtain ⟨m, hm⟩ := k1; exact DataW.trod_lt m _ _ _ hm
  obtain ⟨A1, n1, c1, rfl, x1, w1⟩ := open_bytesV Try.underlying22 Try.underlying5 (by kernel_rfl) (hval 1 22 v1 rfl rfl) h1
  clear hA0 hval0
  refine (walk A0 n0 c0 A1 n1 c1 W w0 x0 w1 x1).mono fun e W' ⟨he, bel⟩ => ?_
  subst he
  exact ⟨_, rfl, _, _, _, [], _, [], hW', trodAll_mk1 (shut_bool Try.underlying4 _), (trodAll_cons_mk (Below.trod laidOut (by kernel_rfl) (of_decide_eq_true (by kernel_rfl)) k0 bel lt0) (trodAll_cons_mk (Below.trod laidOut (by kernel_rfl) (of_decide_eq_true (by kernel_rfl)) k1 bel lt1) trodAll_mk0)), rfl, bel.frame _, fun h => by cases h⟩

theorem over : Rows.fnNandRow.holds Try.pinned (OpenSpec.ofChange Rows.fnNandSpec) :=
  OpenClaim.holds_of_wide 3 Try.f3 rfl rfl rfl rfl rfl rfl rfl ⟨rfl, rfl, rfl, rfl, rfl⟩ rfl rfl rfl rfl rfl (by kernel_rfl) Try.func3 (by kernel_rfl)
    (of_decide_eq_true (by kernel_rfl)) (by unfold Func.isWrapper; first | (rw [if_pos (by decide +kernel)]; kernel_rfl) | (rw [if_neg (by decide +kernel)]; exact ⟨rfl, rfl⟩))
    (fun os started H enc _ => lifted os started H enc)

theorem proved : Rows.FnNandSaid := over
#print axioms proved
end Go.Proofs.Ytdgmpllonnddmaa.fnNand
