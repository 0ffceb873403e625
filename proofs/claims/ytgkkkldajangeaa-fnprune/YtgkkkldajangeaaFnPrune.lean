/-
  For every string of bytes code, the law FnPrune returns true: the program's Prune and Needed answer at the drawn history as the model's; what is not needed may go: the floor, the last Seq and Time, the times of each sector and its contents at each time from the floor on are told as ahead, and pruning again changes nothing. No condition.
-/
import Derived.Test.YtgkkkldajangeaaRows
import Derived.Test.YtgkkkldajangeaaFpMem
import Derived.Test.YtgkkkldajangeaaDrOpen
import Derived.Test.YtgkkkldajangeaaHsTimesI
import Derived.WalkKit
import Derived.ProofKit
import Derived.OpenShut
import Derived.ShutString
import Derived.ChangeOld
import Derived.Below
namespace Go.Proofs.Ytgkkkldajangeaa.fnPrune
open Go.ChangeShapes Go.WideShapes Go.ChangeAt Go.RowKit
open Go.ChangeMaps (open_string shut_string)
set_option linter.unusedVariables false

theorem own : ownKnob Try.prog.godebug = none := by kernel_rfl
theorem laidOut : laidOutB Try.prog = true := by kernel_rfl

set_option maxHeartbeats 8000000 in
set_option maxRecDepth 100000 in
theorem walk (A0 : Option Addr) (n0 c0 : Nat) (w : World) (w0 : RdBy w w.heap.size A0 n0) (x0 : n0 ≤ maxLen) :
    Calls Try.prog 4 #[.slice A0 n0 c0] w fun e w' => e = .returned (.bool true) ∧ Below w.heap.size w w' := by
  have HW0 := Lib.hid w0; clear w0
  unfold maxLen at x0
  by_cases hbig : 1048576 < n0
  · go_enter Try.func4, Try.ntmps4
    go_wp2
    go_ret
    exact ⟨rfl, Below.refl _ _⟩
  go_enter Try.func4, Try.ntmps4
  go_wp2_with fail
  refine (drawPrune_any A0 n0 c0 _ (by omega) HW0.out).mono ?_
  rintro e v1 ⟨Ah, ch, Xh, rfl, hD⟩
  have hv : Below w.heap.size w (v1.alloc (.cells #[.slice Ah Xh.length ch] 25)) := hD.bel.trans (((Below.refl _ _).alloc (Nat.le_refl _) _).mono hD.bel.size)
  have KH1 := Lib.hid (Hx.made hD)
  have HF := Lib.hid hD.fine
  obtain ⟨nh, hnh⟩ : ∃ n, n = Xh.length := ⟨_, rfl⟩
  have HNH := Lib.hid hnh
  rw [← hnh] at KH1 hv ⊢
  clear hnh
  have HB1 := Lib.hid hv
  clear hv hD
  go_wp2_with fail
  change Calls _ _ _ (v1.alloc (.cells #[.slice Ah nh ch] 25)) _
  generalize v1.alloc (.cells #[.slice Ah nh ch] 25) = U1 at HB1 KH1 ⊢
  generalize hbh : v1.heap.size = bh at KH1 ⊢
  clear hbh
  obtain ⟨P, hP⟩ : ∃ P, P = pruneOf Xh := ⟨_, rfl⟩
  have HPE := Lib.hid hP
  have HIP : Hid (Calls Try.prog 32 #[.agg #[.slice Ah nh ch]] U1 (RetHsC U1 P)) := by
    show Calls _ _ _ _ _
    rw [hP, HNH.out]; exact impl_pruneC Ah Xh.length ch Xh U1 KH1.out.small KH1.out.cap KH1.out.rd
  have HFP : Hid (FineH P) := by show FineH P; rw [hP]; exact fine_prune HF.out
  clear hP
  obtain ⟨np, hnp⟩ : ∃ n, n = P.length := ⟨_, rfl⟩
  have HNP := Lib.hid hnp; clear hnp
  refine HIP.out.mono ?_
  rintro e v2 ⟨Ap, cp, rfl, ho, hcap, hb⟩
  have hv : Below U1.heap.size U1 (v2.alloc (.cells #[.slice Ap P.length cp] 25)) := hb.trans (((Below.refl _ _).alloc (Nat.le_refl _) _).mono hb.size)
  have KP2 : Hid (Hx (v2.alloc (.cells #[.slice Ap P.length cp] 25)) v2.heap.size Ap cp P) := ⟨isBlk_new v2 _ _, (ho.rd (Nat.le_refl _)).next ((Below.refl _ _).alloc (Nat.le_refl _) _), hcap, HFP.out⟩
  rw [← HNP.out] at KP2 hv ⊢
  have HB2 := Lib.hid (HB1.out.trans (hv.mono HB1.out.size))
  have KH2 := Lib.hid (KH1.out.below hv)
  clear hv ho hcap hb HIP HB1 KH1
  go_wp2_with fail
  change Code.wp _ _ _ _ (v2.alloc (.cells #[.slice Ap np cp] 25))
  generalize v2.alloc (.cells #[.slice Ap np cp] 25) = U2 at HB2 KH2 KP2 ⊢
  generalize hbp : v2.heap.size = bp at KP2 ⊢
  clear hbp
  obtain ⟨Q, hQ⟩ : ∃ Q : World → Prop, Q = fun W => Below w.heap.size w W ∧ Hx W bh Ah ch Xh ∧ Hx W bp Ap cp P := ⟨_, rfl⟩
  have hQ0 : Q U2 := by rw [hQ]; exact ⟨HB2.out, KH2.out, KP2.out⟩
  have HQs : Hid (∀ W W', Q W → Below W.heap.size W W' → Q W') := fun W W' h hb => by
    rw [hQ] at h ⊢
    obtain ⟨h1, h2, h3⟩ := h
    exact ⟨h1.trans (hb.mono h1.size), h2.below hb, h3.below hb⟩
  have HSQ : Hid (∀ W, Q W → W.cell? ⟨bh, 0, none⟩ = some (.slice Ah nh ch) ∧ W.cell? ⟨bp, 0, none⟩ = some (.slice Ap np cp) ∧ Q W) := fun W h => by
    have h' := h
    rw [hQ] at h'
    obtain ⟨h1, h2, h3⟩ := h'
    refine ⟨?_, ?_, h⟩
    · rw [HNH.out]; exact h2.blk.cell rfl
    · rw [HNP.out]; exact h3.blk.cell rfl
  have HQS : Hid (∀ W, (W.cell? ⟨bh, 0, none⟩ = some (.slice Ah nh ch) ∧ W.cell? ⟨bp, 0, none⟩ = some (.slice Ap np cp) ∧ Q W) → Q W) := fun W h => h.2.2
  have HQB : Hid (∀ W, Q W → Below w.heap.size w W) := fun W h => by rw [hQ] at h; exact h.1
  have HQH : Hid (∀ W, Q W → Hx W bh Ah ch Xh) := fun W h => by rw [hQ] at h; exact h.2.1
  have HQP : Hid (∀ W, Q W → Hx W bp Ap cp P) := fun W h => by rw [hQ] at h; exact h.2.2
  obtain ⟨LN, hLN⟩ : ∃ L, L = neededOf Xh := ⟨_, rfl⟩
  have HLN : Hid (LN.length ≤ 49) := by show _ ≤ _; rw [hLN]; have h1 := neededOf_len Xh; have h2 := HF.out.len; omega
  have HSP : Hid (∀ W, Q W → Calls Try.prog 34 #[.agg #[.slice Ah nh ch]] W (RetHs W P)) := fun W h => by
    have k := HQH.out W h
    rw [HPE.out, HNH.out]; exact spec_prune Ah Xh.length ch Xh W k.small k.rd
  have HNI : Hid (∀ W, Q W → Calls Try.prog 35 #[.agg #[.slice Ah nh ch]] W (RetNs W LN)) := fun W h => by
    have k := HQH.out W h
    rw [hLN, HNH.out]; exact impl_needed Ah Xh.length ch Xh W k.small k.cap k.rd
  have HNS : Hid (∀ W, Q W → Calls Try.prog 36 #[.agg #[.slice Ah nh ch]] W (RetNs W LN)) := fun W h => by
    have k := HQH.out W h
    rw [hLN, HNH.out]; exact spec_needed Ah Xh.length ch Xh W k.small k.rd
  obtain ⟨BH, hBH⟩ : ∃ v, v = hRight Xh := ⟨_, rfl⟩
  have HBH := Lib.hid hBH
  have HRS : Hid (∀ W, Q W → Calls Try.prog 30 #[.agg #[.slice Ah nh ch]] W (fun e w' => e = .returned (.bool BH) ∧ Below W.heap.size W w')) := fun W h => by
    have k := HQH.out W h
    rw [HNH.out, hBH]; exact spec_histRight_any Ah Xh.length ch Xh W k.small k.rd
  clear hLN hBH HB2 KH2 KP2
  go_cut [33] (fun v wx => v = .bool (!BH) ∧ Q wx)
  case first =>
    as_aux_lemma =>
      have hs0 := HSQ.out _ (HQs.out _ _ hQ0 (Below.refl _ _).drew)
      go_region_held3 (fun V => V.cell? ⟨bh, 0, none⟩ = some (.slice Ah nh ch) ∧ V.cell? ⟨bp, 0, none⟩ = some (.slice Ap np cp) ∧ Q V)
        (first | ((fail_if_success (have := hs1)); exact hs0) | ((fail_if_success (have := hs2)); exact hs1) | ((fail_if_success (have := hs3)); exact hs2) | ((fail_if_success (have := hs4)); exact hs3) | ((fail_if_success (have := hs5)); exact hs4) | ((fail_if_success (have := hs6)); exact hs5) | exact hs6)
        (first
          | (go_at_call 34
             refine (HSP.out _ (HQS.out _ (by assumption))).mono ?_
             rintro e q1 ⟨A1, c1, rfl, ho, hb⟩
             have hs1 := HSQ.out _ (HQs.out _ _ (HQS.out _ (by assumption)) hb)
             have R1 := Lib.hid (ho.rd (Nat.le_refl _))
             rw [← HNP.out] at R1 ⊢
             have hfh1 := field_hist0 A1 np c1
             clear ho hb)
          | (go_at_call 33
             refine (lwRecs_same Ap A1 np cp c1 P _ (by rw [HNP.out]; have := HFP.out.len; omega) (by rw [HNP.out]; exact (HQP.out _ (HQS.out _ (by assumption))).rd) R1.out).mono ?_
             rintro e q2 ⟨rfl, hb⟩
             have hs2 := HSQ.out _ (HQs.out _ _ (HQS.out _ (by assumption)) hb)
             clear hb)
          | (go_at_call 35
             refine (HNI.out _ (HQS.out _ (by assumption))).mono ?_
             rintro e q3 ⟨A3, c3, rfl, ho, hb⟩
             have hs3 := HSQ.out _ (HQs.out _ _ (HQS.out _ (by assumption)) hb)
             have R3 := Lib.hid (ho.rd (Nat.le_refl _))
             clear ho hb)
          | (go_at_call 36
             refine (HNS.out _ (HQS.out _ (by assumption))).mono ?_
             rintro e q4 ⟨A4, c4, rfl, ho, hb⟩
             have hs4 := HSQ.out _ (HQs.out _ _ (HQS.out _ (by assumption)) hb)
             have R3' := Lib.hid (rdNs_next R3.out hb)
             have R4 := Lib.hid (ho.rd (Nat.le_refl _))
             clear ho hb)
          | (go_at_call 16
             refine (lwNums_same A3 A4 LN.length c3 c4 LN _ (by have := HLN.out; omega) R3'.out R4.out).mono ?_
             rintro e q5 ⟨rfl, hb⟩
             have hs5 := HSQ.out _ (HQs.out _ _ (HQS.out _ (by assumption)) hb)
             clear hb)
          | (go_at_call 30
             refine (HRS.out _ (HQS.out _ (by assumption))).mono ?_
             rintro e q6 ⟨rfl, hb⟩
             have hs6 := HSQ.out _ (HQs.out _ _ (HQS.out _ (by assumption)) hb)
             clear hb))
      go_wp2_with fail
      go_meet
      exact ⟨rfl, HQS.out _ hs6⟩
  case rest =>
    obtain ⟨rfl, hQc⟩ := hcut
    have HQc := Lib.hid hQc; clear hQc hQ0
    cases hBv : BH
    · go_wp2_with fail
      have hs10 := HSQ.out _ (HQs.out _ _ HQc.out (Below.refl _ _).drew)
      go_region_held3 (fun V => V.cell? ⟨bh, 0, none⟩ = some (.slice Ah nh ch) ∧ V.cell? ⟨bp, 0, none⟩ = some (.slice Ap np cp) ∧ Q V)
        (first | ((fail_if_success (have := hs11)); exact hs10) | ((fail_if_success (have := hs12)); exact hs11) | ((fail_if_success (have := hs13)); exact hs12) | ((fail_if_success (have := hs14)); exact hs13) | ((fail_if_success (have := hs15)); exact hs14) | exact hs15)
        (first
          | (go_at_call 34
             refine (HSP.out _ (HQS.out _ (by assumption))).mono ?_
             rintro e q11 ⟨A11, c11, rfl, ho, hb⟩
             have hs11 := HSQ.out _ (HQs.out _ _ (HQS.out _ (by assumption)) hb)
             have R11 := Lib.hid (ho.rd (Nat.le_refl _))
             rw [← HNP.out] at R11 ⊢
             have hfh11 := field_hist0 A11 np c11
             clear ho hb)
          | (go_at_call 33
             refine (lwRecs_same Ap A11 np cp c11 P _ (by rw [HNP.out]; have := HFP.out.len; omega) (by rw [HNP.out]; exact (HQP.out _ (HQS.out _ (by assumption))).rd) R11.out).mono ?_
             rintro e q12 ⟨rfl, hb⟩
             have hs12 := HSQ.out _ (HQs.out _ _ (HQS.out _ (by assumption)) hb)
             clear hb)
          | (go_at_call 35
             refine (HNI.out _ (HQS.out _ (by assumption))).mono ?_
             rintro e q13 ⟨A13, c13, rfl, ho, hb⟩
             have hs13 := HSQ.out _ (HQs.out _ _ (HQS.out _ (by assumption)) hb)
             have R13 := Lib.hid (ho.rd (Nat.le_refl _))
             clear ho hb)
          | (go_at_call 36
             refine (HNS.out _ (HQS.out _ (by assumption))).mono ?_
             rintro e q14 ⟨A14, c14, rfl, ho, hb⟩
             have hs14 := HSQ.out _ (HQs.out _ _ (HQS.out _ (by assumption)) hb)
             have R13' := Lib.hid (rdNs_next R13.out hb)
             have R14 := Lib.hid (ho.rd (Nat.le_refl _))
             clear ho hb)
          | (go_at_call 16
             refine (lwNums_same A13 A14 LN.length c13 c14 LN _ (by have := HLN.out; omega) R13'.out R14.out).mono ?_
             rintro e q15 ⟨rfl, hb⟩
             have hs15 := HSQ.out _ (HQs.out _ _ (HQS.out _ (by assumption)) hb)
             clear hb))
      all_goals
        go_wp2_with fail
        go_ret
        exact ⟨rfl, HQB.out _ (HQS.out _ hs15)⟩
    · have hX : hRight Xh = true := by rw [← HBH.out]; exact hBv
      subst hBv
      clear HSP HNI HNS HRS HLN
      obtain ⟨fX, hfX⟩ : ∃ f, f = floorOf Xh := ⟨_, rfl⟩
      obtain ⟨qX, hqX⟩ : ∃ f, f = (lastOf Xh).q := ⟨_, rfl⟩
      obtain ⟨tX, htX⟩ : ∃ f, f = (lastOf Xh).t := ⟨_, rfl⟩
      have hf0 : 0 ≤ fX := by rw [hfX, floorOf_of hX]; exact floorR_nonneg _
      have ht0 : 0 ≤ tX ∧ tX ≤ 1000000 := by rw [htX]; exact lastOf_t hX
      have HFH : Hid (∀ W, Q W → Calls Try.prog 27 #[.agg #[.slice Ah nh ch]] W (fun e w' => e = .returned (.int .i64 fX) ∧ Below W.heap.size W w')) := fun W h => by
        have k := HQH.out W h
        rw [hfX, HNH.out]; exact impl_floorOf_any Ah Xh.length ch Xh W k.small k.rd
      have HFQ : Hid (∀ W, Q W → Calls Try.prog 27 #[.agg #[.slice Ap np cp]] W (fun e w' => e = .returned (.int .i64 fX) ∧ Below W.heap.size W w')) := fun W h => by
        have k := HQP.out W h
        rw [hfX, ← pruned_floor hX, ← HPE.out, HNP.out]; exact impl_floorOf_any Ap P.length cp P W k.small k.rd
      have HQH1 : Hid (∀ W, Q W → Calls Try.prog 23 #[.agg #[.slice Ah nh ch]] W (fun e w' => e = .returned (.int .i64 qX) ∧ Below W.heap.size W w')) := fun W h => by
        have k := HQH.out W h
        rw [hqX, HNH.out]; exact impl_lastSeq_any Ah Xh.length ch Xh W k.small k.rd
      have HQH2 : Hid (∀ W, Q W → Calls Try.prog 23 #[.agg #[.slice Ap np cp]] W (fun e w' => e = .returned (.int .i64 qX) ∧ Below W.heap.size W w')) := fun W h => by
        have k := HQP.out W h
        rw [hqX, ← pruned_last hX, ← HPE.out, HNP.out]; exact impl_lastSeq_any Ap P.length cp P W k.small k.rd
      have HTH : Hid (∀ W, Q W → Calls Try.prog 25 #[.agg #[.slice Ah nh ch]] W (fun e w' => e = .returned (.int .i64 tX) ∧ Below W.heap.size W w')) := fun W h => by
        have k := HQH.out W h
        rw [htX, HNH.out]; exact impl_lastTime_any Ah Xh.length ch Xh W k.small k.rd
      have HTP : Hid (∀ W, Q W → Calls Try.prog 25 #[.agg #[.slice Ap np cp]] W (fun e w' => e = .returned (.int .i64 tX) ∧ Below W.heap.size W w')) := fun W h => by
        have k := HQP.out W h
        rw [htX, ← pruned_last hX, ← HPE.out, HNP.out]; exact impl_lastTime_any Ap P.length cp P W k.small k.rd
      have HTELL : Hid (∀ (i : Nat) (k : Int), i < 6 → fX ≤ k → asOf P (i : Int) k = asOf Xh (i : Int) k) := fun i k hi hk => by
        rw [HPE.out, pruneOf_yes hX]
        exact prune_tell hX hi (by rw [hfX, floorOf_of hX] at hk; exact hk)
      have HTIM : Hid (∀ i : Nat, i < 6 → timesOf P (i : Int) = timesOf Xh (i : Int)) := fun i hi => by rw [HPE.out, pruneOf_yes hX]; exact prune_times hX hi
      have HONCE : Hid (pruneOf P = P) := by show _ = _; rw [HPE.out]; exact pruned_once hX
      clear hfX hqX htX
      obtain ⟨a0, a1, -⟩ := HSQ.out _ HQc.out
      go_wp2_with fail
      go_cut [65] (fun v wx => v = .bool false ∧ Q wx)
      case first =>
        have a0' := cell_regrown a0; have a1' := cell_regrown a1
        refine wp_region_quiet_below (by kernel_rfl) (by kernel_rfl) ?_
        repeat (go_big_quiet_step (first
          | (go_at_call 27; (first | (with_reducible refine Calls.regrown_of (HFQ.out _ ?_)) | (with_reducible refine Calls.regrown_of (HFH.out _ ?_))); exact HQs.out _ _ HQc.out (below_regrown _ _ _))
          | (go_at_call 23; (first | (with_reducible refine Calls.regrown_of (HQH2.out _ ?_)) | (with_reducible refine Calls.regrown_of (HQH1.out _ ?_))); exact HQs.out _ _ HQc.out (below_regrown _ _ _))
          | (go_at_call 25; (first | (with_reducible refine Calls.regrown_of (HTP.out _ ?_)) | (with_reducible refine Calls.regrown_of (HTH.out _ ?_))); exact HQs.out _ _ HQc.out (below_regrown _ _ _))))
        refine wpQuiet_nil ?_
        intro w9 hw9
        have hb9 : Below wc.heap.size wc w9 := by obtain ⟨⟨dq, osq⟩, rfl⟩ := hw9; exact below_regrown wc dq osq
        clear hw9
        go_wp2_with fail
        go_meet
        exact ⟨by first | rfl | simp, HQs.out _ _ HQc.out hb9⟩
      case rest =>
        obtain ⟨rfl, hQd⟩ := hcut
        clear a0 a1
        go_wp2_with fail
        go_loopw [5] (fun iv wr => ∃ i : Nat, i ≤ 6 ∧ iv = .int .i64 (i : Nat) ∧ Q wr) (fun iv _ => 6 - (intOf iv).toNat)
        case atStart => exact ⟨0, by omega, rfl, hQd⟩
        case round =>
          obtain ⟨i, hi6, rfl, hQi⟩ := hrel
          have HQi := Lib.hid hQi; clear hQi
          by_cases hlt : i < 6
          · have hli : (i : Int) < 6 := by omega
            obtain ⟨LW, hLW⟩ : ∃ L, L = timesOf Xh (i : Int) := ⟨_, rfl⟩
            have HLW : Hid (LW.length ≤ 49) := by show _ ≤ _; rw [hLW]; have h1 := timesOf_len Xh (i : Int); have h2 := HF.out.len; omega
            have HMP : Hid (∀ W, Q W → Calls Try.prog 21 #[.agg #[.slice Ap np cp], .int .i64 i] W (RetNs W LW)) := fun W h => by
              have k := HQP.out W h
              rw [hLW, ← HTIM.out i hlt, HNP.out]; exact impl_times Ap P.length cp P i W k.small k.rd
            have HMH : Hid (∀ W, Q W → Calls Try.prog 21 #[.agg #[.slice Ah nh ch], .int .i64 i] W (RetNs W LW)) := fun W h => by
              have k := HQH.out W h
              rw [hLW, HNH.out]; exact impl_times Ah Xh.length ch Xh i W k.small k.rd
            clear hLW
            go_wp2_with fail
            go_cut [77] (fun v wx => v = .bool false ∧ Q wx)
            case first =>
              have hs20 := HSQ.out _ (HQs.out _ _ HQi.out (Below.refl _ _).drew)
              go_region_held3 (fun V => V.cell? ⟨bh, 0, none⟩ = some (.slice Ah nh ch) ∧ V.cell? ⟨bp, 0, none⟩ = some (.slice Ap np cp) ∧ Q V)
                (first | ((fail_if_success (have := hs21)); exact hs20) | ((fail_if_success (have := hs22)); exact hs21) | ((fail_if_success (have := hs23)); exact hs22) | exact hs23)
                (first
                  | (go_at_call 21
                     first
                       | (have hz21 := hs21
                          refine (HMH.out _ (HQS.out _ (by assumption))).mono ?_
                          rintro e q22 ⟨A22, c22, rfl, ho, hb⟩
                          have hs22 := HSQ.out _ (HQs.out _ _ (HQS.out _ (by assumption)) hb)
                          have R21' := Lib.hid (rdNs_next R21.out hb)
                          have R22 := Lib.hid (ho.rd (Nat.le_refl _))
                          clear ho hb)
                       | (fail_if_success (have := hs21)
                          refine (HMP.out _ (HQS.out _ (by assumption))).mono ?_
                          rintro e q21 ⟨A21, c21, rfl, ho, hb⟩
                          have hs21 := HSQ.out _ (HQs.out _ _ (HQS.out _ (by assumption)) hb)
                          have R21 := Lib.hid (ho.rd (Nat.le_refl _))
                          clear ho hb))
                  | (go_at_call 16
                     refine (lwNums_same A21 A22 LW.length c21 c22 LW _ (by have := HLW.out; omega) R21'.out R22.out).mono ?_
                     rintro e q23 ⟨rfl, hb⟩
                     have hs23 := HSQ.out _ (HQs.out _ _ (HQS.out _ (by assumption)) hb)
                     clear hb))
              go_wp2_with fail
              go_meet
              exact ⟨rfl, HQS.out _ hs23⟩
            case rest =>
              obtain ⟨rfl, hQe⟩ := hcut
              have HQe := Lib.hid hQe; clear hQe
              obtain ⟨a0, a1, -⟩ := HSQ.out _ HQe.out
              go_wp2_with fail
              refine (HFH.out _ HQe.out).mono ?_
              rintro e p1 ⟨rfl, hb⟩
              have HQ1 := Lib.hid (HQs.out _ _ HQe.out hb)
              clear hb a0 a1
              go_wp2_with fail
              go_loopw [6] (fun kv wr => ∃ k : Int, fX ≤ k ∧ k ≤ tX + 2 + fX ∧ kv = .int .i64 k ∧ Q wr) (fun kv _ => (tX + 2 + fX - intOf kv).toNat)
              case atStart => exact ⟨fX, by omega, by omega, rfl, HQ1.out⟩
              case round =>
                obtain ⟨k, hk1, hk2, rfl, hQk⟩ := hrel
                have HQk := Lib.hid hQk; clear hQk
                obtain ⟨a0, a1, -⟩ := HSQ.out _ HQk.out
                go_wp2_with fail
                refine (HTH.out _ HQk.out).mono ?_
                rintro e p2 ⟨rfl, hb⟩
                have HQ2 := Lib.hid (HQs.out _ _ HQk.out hb)
                clear hb a0 a1
                obtain ⟨a0, a1, -⟩ := HSQ.out _ HQ2.out
                have hw1 : IntKind.i64.wrap (tX + 1) = tX + 1 := IntWalk.i64_in _ (by omega)
                by_cases hkt : k ≤ tX + 1
                · obtain ⟨V, hV⟩ : ∃ V, V = asOf Xh (i : Int) k := ⟨_, rfl⟩
                  have HI : Hid (∀ W, Q W → Calls Try.prog 19 #[.agg #[.slice Ap np cp], .int .i64 i, .int .i64 k] W (fun e w' => e = .returned (voV V) ∧ Below W.heap.size W w')) := fun W h => by
                    have kk := HQP.out W h
                    rw [hV, ← HTELL.out i k hlt hk1, HNP.out]; exact impl_asOf Ap P.length cp P i k W kk.small kk.cap kk.rd
                  have HS : Hid (∀ W, Q W → Calls Try.prog 19 #[.agg #[.slice Ah nh ch], .int .i64 i, .int .i64 k] W (fun e w' => e = .returned (voV V) ∧ Below W.heap.size W w')) := fun W h => by
                    have kk := HQH.out W h
                    rw [hV, HNH.out]; exact impl_asOf Ah Xh.length ch Xh i k W kk.small kk.cap kk.rd
                  clear hV
                  have hne := equalIn_vo V
                  have hgu := vo_guard
                  go_wp2_with fail
                  have a0' := cell_regrown a0; have a1' := cell_regrown a1
                  refine wp_region_quiet_below (by kernel_rfl) (by kernel_rfl) ?_
                  repeat (go_big_quiet_step ((go_at_call 19; (first | (with_reducible refine Calls.regrown_of (HI.out _ ?_)) | (with_reducible refine Calls.regrown_of (HS.out _ ?_))); exact HQs.out _ _ HQ2.out (below_regrown _ _ _))))
                  refine wpQuiet_nil ?_
                  intro w9 hw9
                  have hb9 : Below p2.heap.size p2 w9 := by obtain ⟨⟨dq, osq⟩, rfl⟩ := hw9; exact below_regrown p2 dq osq
                  clear hw9
                  go_wp2_with fail
                  go_roundw
                  case rel => exact ⟨k + 1, by omega, by omega, by go_num, HQs.out _ _ HQ2.out hb9⟩
                  case measure => simp [intOf]; omega
                · go_wp2_with fail
                  go_roundw
                  case rel => exact ⟨i + 1, by omega, by go_num, HQ2.out⟩
                  case measure => simp [intOf]; omega
          · obtain rfl : i = 6 := by omega
            obtain ⟨a0, a1, -⟩ := HSQ.out _ HQi.out
            have HIP2 : Hid (∀ W, Q W → Calls Try.prog 32 #[.agg #[.slice Ap np cp]] W (RetHsC W P)) := fun W h => by
              have kk := HQP.out W h
              have h' := impl_pruneC Ap P.length cp P W kk.small kk.cap kk.rd
              rw [HONCE.out] at h'
              rw [HNP.out]; exact h'
            go_wp2_with fail
            have hs30 := HSQ.out _ (HQs.out _ _ HQi.out (Below.refl _ _).drew)
            go_region_held3 (fun V => V.cell? ⟨bh, 0, none⟩ = some (.slice Ah nh ch) ∧ V.cell? ⟨bp, 0, none⟩ = some (.slice Ap np cp) ∧ Q V)
              (first | ((fail_if_success (have := hs31)); exact hs30) | ((fail_if_success (have := hs32)); exact hs31) | exact hs32)
              (first
                | (go_at_call 32
                   refine (HIP2.out _ (HQS.out _ (by assumption))).mono ?_
                   rintro e q31 ⟨A31, c31, rfl, ho, -, hb⟩
                   have hs31 := HSQ.out _ (HQs.out _ _ (HQS.out _ (by assumption)) hb)
                   have R31 := Lib.hid (ho.rd (Nat.le_refl _))
                   rw [← HNP.out] at R31 ⊢
                   have hfh31 := field_hist0 A31 np c31
                   clear ho hb)
                | (go_at_call 33
                   refine (lwRecs_same A31 Ap np c31 cp P _ (by rw [HNP.out]; have := HFP.out.len; omega) R31.out (by rw [HNP.out]; exact (HQP.out _ (HQS.out _ (by assumption))).rd)).mono ?_
                   rintro e q32 ⟨rfl, hb⟩
                   have hs32 := HSQ.out _ (HQs.out _ _ (HQS.out _ (by assumption)) hb)
                   clear hb))
            all_goals
              go_wp2_with fail
              go_ret
              exact ⟨rfl, HQB.out _ (HQS.out _ hs32)⟩

set_option maxHeartbeats 1000000 in
set_option maxRecDepth 100000 in
theorem lifted (os : Os) (started : os.Started) (H : Type) (enc : TypeId × Value → H) :
    ReturnsInHanded {} Try.checked os 4 .any (Rows.fnPruneSpec.pre6 enc Try.prog Try.f4 Rows.fnPruneRow.domain false) (Rows.fnPruneSpec.post enc Try.prog Try.f4 false true false false) := by
  refine returnsInHanded_of_change (C := Try.checked) own started (by kernel_rfl) Try.func4
    (ChangeSpec.witness6 (enc := enc) (C := Try.checked) false ⟨#[], #[.slice none 0 0], []⟩ 8 (by kernel_rfl) (by kernel_rfl) (by kernel_rfl) (by kernel_rfl)) ?_
  intro W base args ds gs before hval0 hW hcnd _
  have hval : ∀ (j : Nat) t v, Try.f4.params[j]? = some t → args[j]? = some v → Value.okWide Try.prog W .any base t v := hval0
  have hW' := hW
  obtain ⟨p, q, hA0, hV, rfl, hfz, hnd⟩ := hW
  have hA : DataW.TrodAll enc Try.prog W 0 (fun _ => true) true Try.f4.params.toList args.toList ds p := hA0
  rw [Try.params4] at hA hval
  obtain ⟨v0, vs0, d0, ds0, p0, q0, hargs, rfl, rfl, h0, z0⟩ := trodAll_cons hA
  obtain ⟨rfl, rfl, rfl⟩ := trodAll_nil z0
  obtain rfl : args = #[v0] := by cases args; simp_all
  obtain ⟨rfl, rfl⟩ := trodVars_none hV
  have k0 := h0
  have lt0 : ∀ x ∈ p0, x.block < W.heap.size := by obtain ⟨m, hm⟩ := k0; exact DataW.trod_lt m _ _ _ hm
  obtain ⟨A0, n0, c0, rfl, x0, w0⟩ := open_bytesV Try.underlying22 Try.underlying5 (by kernel_rfl) (hval 0 22 v0 rfl rfl) h0
  clear hA0 hval0
  refine (walk A0 n0 c0 W w0 x0).mono fun e W' ⟨he, bel⟩ => ?_
  subst he
  exact ⟨_, rfl, _, _, _, [], _, [], hW', trodAll_mk1 (shut_bool Try.underlying4 _), (trodAll_cons_mk (Below.trod laidOut (by kernel_rfl) (of_decide_eq_true (by kernel_rfl)) k0 bel lt0) trodAll_mk0), rfl, bel.frame _, fun h => by cases h⟩

theorem over : Rows.fnPruneRow.holds Try.pinned (OpenSpec.ofChange Rows.fnPruneSpec) :=
  OpenClaim.holds_of_wide 4 Try.f4 rfl rfl rfl rfl rfl rfl rfl ⟨rfl, rfl, rfl, rfl, rfl⟩ rfl rfl rfl rfl rfl (by kernel_rfl) Try.func4 (by kernel_rfl)
    (of_decide_eq_true (by kernel_rfl)) (by unfold Func.isWrapper; first | (rw [if_pos (by decide +kernel)]; kernel_rfl) | (rw [if_neg (by decide +kernel)]; exact ⟨rfl, rfl⟩))
    (fun os started H enc _ => lifted os started H enc)

theorem proved : Rows.FnPruneSaid := over
#print axioms proved
end Go.Proofs.Ytgkkkldajangeaa.fnPrune
