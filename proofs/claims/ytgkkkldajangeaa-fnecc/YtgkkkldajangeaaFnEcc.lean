/-
  For all strings of bytes code and more, the law FnEcc returns true: the program's EccOf and EccFix answer at the drawn strings and codes as the model's; a string of at most 60 bytes is returned unchanged by its own code; with any one bit inverted it is corrected, and the place is told; any two inverted bits are detected. No condition.
-/
import Derived.Test.YtgkkkldajangeaaRows
import Derived.Test.YtgkkkldajangeaaEcLaw
import Derived.Test.YtgkkkldajangeaaEcDraw
import Derived.Test.YtgkkkldajangeaaDrOpen
import Derived.StillTailTactics
import Derived.WalkKit
import Derived.ProofKit
import Derived.OpenShut
import Derived.ShutString
import Derived.ChangeOld
import Derived.Below
namespace Go.Proofs.Ytgkkkldajangeaa.fnEcc
open Go.ChangeShapes Go.WideShapes Go.ChangeAt Go.RowKit
open Go.ChangeMaps (open_string shut_string)
set_option linter.unusedVariables false

theorem own : ownKnob Try.prog.godebug = none := by kernel_rfl
theorem laidOut : laidOutB Try.prog = true := by kernel_rfl

set_option maxHeartbeats 8000000 in
set_option maxRecDepth 100000 in
theorem walk (A0 : Option Addr) (n0 c0 : Nat) (A1 : Option Addr) (n1 c1 : Nat) (w : World) (w0 : RdBy w w.heap.size A0 n0) (x0 : n0 ≤ maxLen) (w1 : RdBy w w.heap.size A1 n1) (x1 : n1 ≤ maxLen) :
    Calls Try.prog 5 #[.slice A0 n0 c0, .slice A1 n1 c1] w fun e w' => e = .returned (.bool true) ∧ Below w.heap.size w w' := by
  have HW0 := Lib.hid w0; have HW1 := Lib.hid w1; clear w0 w1
  unfold maxLen at x0 x1
  by_cases hbig : 1048576 < n0
  · go_enter Try.func5, Try.ntmps5
    go_wp2
    go_ret
    exact ⟨rfl, Below.refl _ _⟩
  by_cases hbig1 : 1048576 < n1
  · go_enter Try.func5, Try.ntmps5
    go_wp2
    go_ret
    exact ⟨rfl, Below.refl _ _⟩
  go_enter Try.func5, Try.ntmps5
  go_wp2_with fail
  refine (drawEccOf_any A0 n0 c0 _ (by omega) HW0.out).mono ?_
  rintro e u1 ⟨t, rfl, ht, hb1⟩
  have HB1 := Lib.hid hb1; have HR1 := Lib.hid (rdBy_on HW1.out hb1); clear hb1
  go_wp2_with fail
  refine (impl_eccOf t _ (by unfold maxLen; omega)).mono ?_
  rintro e _ ⟨rfl, rfl⟩
  have HES : Hid (∀ W, Calls Try.prog 40 #[.string t] W fun e w' => e = .returned (.int .i64 (Bt.eccAns t)) ∧ W = w') := fun W => spec_eccOf t W (by unfold maxLen; omega)
  go_wp2_with fail
  refine (drawEccFix_any A1 n1 c1 _ (by omega) HR1.out).mono ?_
  rintro e u2 ⟨u, q, rfl, hu, hq1, hq2, hb2⟩
  have HB2 := Lib.hid (HB1.out.trans (hb2.mono HB1.out.size)); have HR2 := Lib.hid (rdBy_on HR1.out hb2); clear hb2 HB1 HR1
  obtain ⟨E, hE⟩ : ∃ E, E = Bt.eccAns t := ⟨_, rfl⟩
  rw [← hE] at HES ⊢
  have HE := Lib.hid hE; clear hE
  obtain ⟨TU, PU, CU, hV⟩ : ∃ TU PU CU, fixV u q = .agg #[.string TU, .int .i64 PU, .int .i64 CU] := ⟨_, _, _, rfl⟩
  have HFI : Hid (∀ W, Calls Try.prog 41 #[.string u, .int .i64 q] W fun e w' => e = .returned (.agg #[.string TU, .int .i64 PU, .int .i64 CU]) ∧ Below W.heap.size W w') := fun W => by rw [← hV]; exact impl_eccFix u q W (by unfold maxLen; omega) hq1 hq2
  have HFS : Hid (∀ W, Calls Try.prog 42 #[.string u, .int .i64 q] W fun e w' => e = .returned (.agg #[.string TU, .int .i64 PU, .int .i64 CU]) ∧ Below W.heap.size W w') := fun W => by rw [← hV]; exact spec_eccFix u q W (by unfold maxLen; omega) hq1 hq2
  clear hV
  go_wp2_with fail
  refine (HES.out _).mono ?_
  rintro e _ ⟨rfl, rfl⟩
  go_wp2_with fail
  refine (HFI.out _).mono ?_
  rintro e u3 ⟨rfl, hb3⟩
  have HB3 := Lib.hid (HB2.out.trans (hb3.mono HB2.out.size)); have HR3 := Lib.hid (rdBy_on HR2.out hb3); clear hb3 HB2 HR2
  go_wp2_with fail
  refine (HFS.out _).mono ?_
  rintro e u4 ⟨rfl, hb4⟩
  have HB4 := Lib.hid (HB3.out.trans (hb4.mono HB3.out.size)); have HR4 := Lib.hid (rdBy_on HR3.out hb4); clear hb4 HB3 HR3
  have hne := equalIn_fix TU PU CU
  have hgu := fix_guard
  have hlw : ∀ (W : World) (k : Nat), k < 4 → RdBy W W.heap.size A1 n1 → Calls Try.prog 43 #[.slice A1 n1 c1, .int .i64 (k : Int), .int .i64 256] W fun e w' => ∃ r : Nat, e = .returned (.int .i64 (r : Int)) ∧ r < 256 ∧ W = w' := fun W k hk h => lwAt_any A1 n1 c1 k W (by omega) (by omega) h
  have HLW := Lib.hid hlw; clear hlw
  by_cases hz : t.size = 0
  · have hzi : ((t.size : Int) == 0) = true := by simp [hz]
    have hE0 : E = 0 := by rw [HE.out, Bt.eccAns, if_neg (by omega), Bt.eccN, show t.data.toList.length = 0 from hz, Nat.mul_zero, Bt.eccTo]; rfl
    subst hE0
    go_wp2_with fail
    go_ret
    exact ⟨rfl, HB4.out⟩
  have hzi : ((t.size : Int) == 0) = false := beq_eq_false_iff_ne.2 (by omega)
  by_cases hl : 60 < t.size
  · have hE0 : E = -1 := by rw [HE.out, Bt.eccAns, if_pos hl]
    have hli : 60 < (t.size : Int) := by omega
    subst hE0
    go_wp2_with fail
    go_ret
    refine ⟨?_, HB4.out⟩
    simp
  obtain ⟨N, hN⟩ : ∃ N, N = Bt.eccN t.data.toList := ⟨_, rfl⟩
  have hE0 : E = (N : Int) := by rw [HE.out, Bt.eccAns, if_neg hl, hN]
  subst hE0
  have hnl : N < 1024 := by rw [hN]; exact Bt.eccN_lt (by show t.size ≤ 60; omega)
  have HN := Lib.hid hN; clear hN
  have hEi : ¬ (N : Int) < 0 := by omega
  clear HFI HFS HES
  go_wp2_with fail
  refine (HLW.out u4 0 (by omega) HR4.out).mono ?_
  rintro e _ ⟨r0, rfl, hr0, rfl⟩
  go_wp2_with fail
  refine (HLW.out u4 1 (by omega) HR4.out).mono ?_
  rintro e _ ⟨r1, rfl, hr1, rfl⟩
  obtain ⟨i, hi, hib⟩ : ∃ i : Nat, ((r0 : Int) * 256 + (r1 : Int)).tmod (8 * (t.size : Int)) = (i : Int) ∧ i < 8 * t.size := by
    refine ⟨(r0 * 256 + r1) % (8 * t.size), ?_, Nat.mod_lt _ (by omega)⟩
    rw [Int.tmod_eq_emod_of_nonneg (by omega)]
    simp
  have hb8 : ((8 * (t.size : Int)) == 0) = false := beq_eq_false_iff_ne.2 (by omega)
  go_wp2_with fail
  refine (HLW.out u4 2 (by omega) HR4.out).mono ?_
  rintro e _ ⟨r2, rfl, hr2, rfl⟩
  go_wp2_with fail
  refine (HLW.out u4 3 (by omega) HR4.out).mono ?_
  rintro e _ ⟨r3, rfl, hr3, rfl⟩
  obtain ⟨j, hj, hjb⟩ : ∃ j : Nat, ((r2 : Int) * 256 + (r3 : Int)).tmod (8 * (t.size : Int)) = (j : Int) ∧ j < 8 * t.size := by
    refine ⟨(r2 * 256 + r3) % (8 * t.size), ?_, Nat.mod_lt _ (by omega)⟩
    rw [Int.tmod_eq_emod_of_nonneg (by omega)]
    simp
  obtain ⟨cap, W, hcv, hzw, hbw, hrw⟩ := bytes_row t u4
  have HBW := Lib.hid (HB4.out.trans (hbw.mono HB4.out.size)); have HRW := Lib.hid hrw
  clear hbw hrw HLW HR4
  have huw := HB4.out.size
  go_wp2_with fail
  have hlen : t.data.toList.length = t.size := rfl
  obtain ⟨x, y, c0', f0', hx8, hry⟩ := flip_facts HRW.out (p := i) (by omega)
  have hil : i / 8 < t.size := by omega
  have hin : 0 ≤ (i : Int) / 8 ∧ (i : Int) / 8 < (t.size : Int) := by omega
  have hnat : ((i : Int) / 8).toNat = i / 8 := by omega
  have htd : ((i : Int)).tdiv 8 = (i : Int) / 8 := Int.tdiv_eq_ediv_of_nonneg (by omega)
  have htm : ((i : Int)).tmod 8 = (i : Int) % 8 := Int.tmod_eq_emod_of_nonneg (by omega)
  have hwp : IntKind.i64.wrap (i : Int) = i := IntWalk.i64_in _ (by omega)
  have hwq : IntKind.i64.wrap ((i : Int) / 8) = (i : Int) / 8 := IntWalk.i64_in _ (by omega)
  have ha : (i : Int) % 8 = ((i % 8 : Nat) : Int) := by omega
  have hm : i % 8 < 8 := by omega
  have hml : 8 ≤ 8 := Nat.le_refl _
  generalize i % 8 = m at hx8 ha hm
  have hwm : IntKind.i64.wrap (m : Int) = m := IntWalk.i64_in _ (by omega)
  go_still_tail 13, (by kernel_rfl)
  change wpList _ _ _ _ _ W.drew
  generalize hW2 : (W.setCell ⟨u4.heap.size, i / 8, none⟩ (.int .u8 (y : Int))).drew = W2
  have HR2 : Hid (ByRow W2 u4.heap.size (Bt.flip1 t.data.toList i)) := by rw [← hW2]; exact hry
  have hcv1 := row_text (n := t.size) (c := cap) HR2.out (by rw [Bt.flip1_len]; exact hlen)
  have hbd : Below w.heap.size w (W.setCell ⟨u4.heap.size, i / 8, none⟩ (.int .u8 (y : Int))) := HBW.out.setCell huw _
  have HB2 : Hid (Below w.heap.size w W2) := by rw [← hW2]; exact ⟨hbd.os, hbd.tape, hbd.output, hbd.size, hbd.block⟩
  clear hbd hry
  go_wp2_with (rw [hW2])
  clear hcv hcv1 c0' f0' hil hin hnat htd htm hwp hwq ha hm hx8 hwm hW2 HBW HRW
  obtain ⟨x', y', c1', f1', hx9, hry⟩ := flip_facts HR2.out (p := j) (by rw [Bt.flip1_len]; omega)
  have hil : j / 8 < t.size := by omega
  have hin : 0 ≤ (j : Int) / 8 ∧ (j : Int) / 8 < (t.size : Int) := by omega
  have hnat : ((j : Int) / 8).toNat = j / 8 := by omega
  have htd : ((j : Int)).tdiv 8 = (j : Int) / 8 := Int.tdiv_eq_ediv_of_nonneg (by omega)
  have htm : ((j : Int)).tmod 8 = (j : Int) % 8 := Int.tmod_eq_emod_of_nonneg (by omega)
  have hwp : IntKind.i64.wrap (j : Int) = j := IntWalk.i64_in _ (by omega)
  have hwq : IntKind.i64.wrap ((j : Int) / 8) = (j : Int) / 8 := IntWalk.i64_in _ (by omega)
  have ha : (j : Int) % 8 = ((j % 8 : Nat) : Int) := by omega
  have hm : j % 8 < 8 := by omega
  generalize j % 8 = m' at hx9 ha hm
  have hwm : IntKind.i64.wrap (m' : Int) = m' := IntWalk.i64_in _ (by omega)
  go_still_tail 13, (by kernel_rfl)
  change wpList _ _ _ _ _ W2.drew
  generalize hW3 : (W2.setCell ⟨u4.heap.size, j / 8, none⟩ (.int .u8 (y' : Int))).drew = W3
  have HR3 : Hid (ByRow W3 u4.heap.size (Bt.flip1 (Bt.flip1 t.data.toList i) j)) := by rw [← hW3]; exact hry
  have hcv2 := row_text (n := t.size) (c := cap) HR3.out (by rw [Bt.flip1_len, Bt.flip1_len]; exact hlen)
  have hbd : Below w.heap.size w (W2.setCell ⟨u4.heap.size, j / 8, none⟩ (.int .u8 (y' : Int))) := HB2.out.setCell huw _
  have HB3 : Hid (Below w.heap.size w W3) := by rw [← hW3]; exact ⟨hbd.os, hbd.tape, hbd.output, hbd.size, hbd.block⟩
  have HF1 : Hid (∀ W, Calls Try.prog 41 #[.string t, .int .i64 (N : Int)] W fun e w' => e = .returned (.agg #[.string t, .int .i64 0, .int .i64 0]) ∧ Below W.heap.size W w') := fun W => by
    have h := impl_eccFix t (N : Int) W (by unfold maxLen; omega) (by omega) (by omega)
    rw [HN.out, fixV_of (Bt.told_same (s := t) (by omega)), strV, bstr_of] at h
    rw [HN.out]; exact h
  obtain ⟨one, hone⟩ : ∃ one, one = bstr (Bt.flip1 t.data.toList i) := ⟨_, rfl⟩
  obtain ⟨two, htwo⟩ : ∃ two, two = bstr (Bt.flip1 (Bt.flip1 t.data.toList i) j) := ⟨_, rfl⟩
  have hos : one.size ≤ 60 := by rw [hone, bstr_size, Bt.flip1_len]; omega
  have hts : two.size ≤ 60 := by rw [htwo, bstr_size, Bt.flip1_len, Bt.flip1_len]; omega
  have HF2 : Hid (∀ W, Calls Try.prog 41 #[.string one, .int .i64 (N : Int)] W fun e w' => e = .returned (.agg #[.string t, .int .i64 ((i : Int) + 1), .int .i64 0]) ∧ Below W.heap.size W w') := fun W => by
    have h := impl_eccFix one (N : Int) W (by unfold maxLen; omega) (by omega) (by omega)
    rw [HN.out, fixV_of (Bt.told_one (s := t) (o := one) (p := i) (by omega) hib (by rw [hone, bstr_list])), strV, bstr_of] at h
    rw [HN.out]; exact h
  have HF3 : Hid (i ≠ j → ∃ (T : ByteArray) (P : Int), ∀ W, Calls Try.prog 41 #[.string two, .int .i64 (N : Int)] W fun e w' => e = .returned (.agg #[.string T, .int .i64 P, .int .i64 5]) ∧ Below W.heap.size W w') := fun hij => by
    have h5 : Bt.fixCode two (N : Int) = 5 := by rw [HN.out]; exact Bt.told_two (s := t) (o := two) (p := i) (q := j) (by omega) hib hjb hij (by rw [htwo, bstr_list])
    refine ⟨bstr (Bt.fixText two (N : Int)), (Bt.fixAt two (N : Int) : Nat), fun W => ?_⟩
    have h := impl_eccFix two (N : Int) W (by unfold maxLen; omega) (by omega) (by omega)
    rw [fixV, h5] at h
    exact h
  have HONE : Hid (strV (Bt.flip1 t.data.toList i) = .string one) := by show _ = _; rw [hone]
  have HTWO : Hid (strV (Bt.flip1 (Bt.flip1 t.data.toList i) j) = .string two) := by show _ = _; rw [htwo]
  rw [HTWO.out] at hcv2
  rw [HONE.out]
  clear hone htwo hbd hry
  have hne1 := equalIn_fix t 0 0
  have hne2 := equalIn_fix t ((i : Int) + 1) 0
  go_wp2_with (rw [hW3])
  clear hcv2
  refine (HF1.out _).mono ?_
  rintro e u5 ⟨rfl, hb5⟩
  have HB5 := Lib.hid (HB3.out.trans (hb5.mono HB3.out.size)); clear hb5 HB3
  go_wp2_with fail
  refine (HF2.out _).mono ?_
  rintro e u6 ⟨rfl, hb6⟩
  have HB6 := Lib.hid (HB5.out.trans (hb6.mono HB5.out.size)); clear hb6 HB5
  by_cases hij : i = j
  · subst hij
    go_wp2_with fail
    go_ret
    exact ⟨rfl, HB6.out⟩
  · have hiji : ((i : Int) == (j : Int)) = false := beq_eq_false_iff_ne.2 (by omega)
    obtain ⟨T3, P3, h3⟩ := HF3.out hij
    have H3 := Lib.hid h3; clear h3
    go_wp2_with fail
    refine (H3.out _).mono ?_
    rintro e u7 ⟨rfl, hb7⟩
    have HB7 := Lib.hid (HB6.out.trans (hb7.mono HB6.out.size)); clear hb7
    have hfl := field_fixC T3 P3 5 u7
    go_wp2_with fail
    go_ret
    exact ⟨rfl, HB7.out⟩

set_option maxHeartbeats 1000000 in
set_option maxRecDepth 100000 in
theorem lifted (os : Os) (started : os.Started) (H : Type) (enc : TypeId × Value → H) :
    ReturnsInHanded {} Try.checked os 5 .any (Rows.fnEccSpec.pre6 enc Try.prog Try.f5 Rows.fnEccRow.domain false) (Rows.fnEccSpec.post enc Try.prog Try.f5 false true false false) := by
  refine returnsInHanded_of_change (C := Try.checked) own started (by kernel_rfl) Try.func5
    (ChangeSpec.witness6 (enc := enc) (C := Try.checked) false ⟨#[], #[.slice none 0 0, .slice none 0 0], []⟩ 8 (by kernel_rfl) (by kernel_rfl) (by kernel_rfl) (by kernel_rfl)) ?_
  intro W base args ds gs before hval0 hW hcnd _
  have hval : ∀ (j : Nat) t v, Try.f5.params[j]? = some t → args[j]? = some v → Value.okWide Try.prog W .any base t v := hval0
  have hW' := hW
  obtain ⟨p, q, hA0, hV, rfl, hfz, hnd⟩ := hW
  have hA : DataW.TrodAll enc Try.prog W 0 (fun _ => true) true Try.f5.params.toList args.toList ds p := hA0
  rw [Try.params5] at hA hval
  obtain ⟨v0, vs0, d0, ds0, p0, q0, hargs, rfl, rfl, h0, z0⟩ := trodAll_cons hA
  obtain ⟨v1, vs1, d1, ds1, p1, q1, rfl, rfl, rfl, h1, z1⟩ := trodAll_cons z0
  obtain ⟨rfl, rfl, rfl⟩ := trodAll_nil z1
  obtain rfl : args = #[v0, v1] := by cases args; simp_all
  obtain ⟨rfl, rfl⟩ := trodVars_none hV
  have k0 := h0
  have lt0 : ∀ x ∈ p0, x.block < W.heap.size := by obtain ⟨m, hm⟩ := k0; exact DataW.trod_lt m _ _ _ hm
  obtain ⟨A0, n0, c0, rfl, x0, w0⟩ := open_bytesV Try.underlying22 Try.underlying5 (by kernel_rfl) (hval 0 22 v0 rfl rfl) h0
  have k1 := h1
  have lt1 : ∀ x ∈ p1, x.block < W.heap.size := by obtain ⟨m, hm⟩ := k1; exact DataW.trod_lt m _ _ _ hm
  obtain ⟨A1, n1, c1, rfl, x1, w1⟩ := open_bytesV Try.underlying22 Try.underlying5 (by kernel_rfl) (hval 1 22 v1 rfl rfl) h1
  clear hA0 hval0
  refine (walk A0 n0 c0 A1 n1 c1 W w0 x0 w1 x1).mono fun e W' ⟨he, bel⟩ => ?_
  subst he
  exact ⟨_, rfl, _, _, _, [], _, [], hW', trodAll_mk1 (shut_bool Try.underlying4 _), (trodAll_cons_mk (Below.trod laidOut (by kernel_rfl) (of_decide_eq_true (by kernel_rfl)) k0 bel lt0) (trodAll_cons_mk (Below.trod laidOut (by kernel_rfl) (of_decide_eq_true (by kernel_rfl)) k1 bel lt1) trodAll_mk0)), rfl, bel.frame _, fun h => by cases h⟩

theorem over : Rows.fnEccRow.holds Try.pinned (OpenSpec.ofChange Rows.fnEccSpec) :=
  OpenClaim.holds_of_wide 5 Try.f5 rfl rfl rfl rfl rfl rfl rfl ⟨rfl, rfl, rfl, rfl, rfl⟩ rfl rfl rfl rfl rfl (by kernel_rfl) Try.func5 (by kernel_rfl)
    (of_decide_eq_true (by kernel_rfl)) (by unfold Func.isWrapper; first | (rw [if_pos (by decide +kernel)]; kernel_rfl) | (rw [if_neg (by decide +kernel)]; exact ⟨rfl, rfl⟩))
    (fun os started H enc _ => lifted os started H enc)

theorem proved : Rows.FnEccSaid := over
#print axioms proved
end Go.Proofs.Ytgkkkldajangeaa.fnEcc
