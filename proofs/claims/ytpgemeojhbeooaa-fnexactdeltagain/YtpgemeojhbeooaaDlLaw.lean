/-
  The laws' own steps over lists of delta operations: their measure, their copies, their comparison.
-/
import Derived.Test.YtpgemeojhbeooaaProg
import Derived.KernelRfl
import Derived.Test.YtpgemeojhbeooaaDlMem
namespace Go.Proofs.Ytpgemeojhbeooaa
open Go.RowKit
open Bt (Dop)

set_option maxHeartbeats 1000000 in
theorem szDop_any (r : Dop) (left : Int) (w : World) (h0 : 0 ≤ left) (h1 : left ≤ 1048576) (hd : r.x.size ≤ 9223372036854775807) :
    Calls Try.prog 25 #[dopV r, .int .i64 left] w fun e w' => e = .returned (.int .i64 (szD r.x.size left)) ∧ Below w.heap.size w w' := by
  obtain ⟨f, c, x⟩ := r
  simp only at hd ⊢
  by_cases hc : (x.size : Int) ≤ left
  · rw [szD_ok hc]
    go_enter Try.func25, Try.ntmps25
    go_wp2
    go_ret
    exact ⟨rfl, (Below.refl _ _).alloc (Nat.le_refl _) _⟩
  · rw [szD_no (by omega)]
    go_enter Try.func25, Try.ntmps25
    go_wp2
    go_ret
    exact ⟨rfl, (Below.refl _ _).alloc (Nat.le_refl _) _⟩

set_option maxHeartbeats 1000000 in
theorem szDops_any (A : Option Addr) (n ca : Nat) (X : List Dop) (left : Int) (w : World) (h0 : 0 ≤ left) (h1 : left ≤ 1048576) (hW : WideD X) (hA : RdDo w w.heap.size A n X) :
    Calls Try.prog 8 #[.slice A n ca, .int .i64 left] w fun e w' => e = .returned (.int .i64 (szD (szDos X) left)) ∧ Below w.heap.size w w' := by
  have hn : n ≤ 9223372036854775807 := by rw [← hA.1]; exact hW.1
  have HA := Lib.hid hA; have HD := Lib.hid hW.2.1; clear hA hW
  have HS : Hid (szDos X = n + sumD X n) := by show szDos X = _; rw [szDos, HA.out.1]
  rw [HS.out]
  by_cases hc : (n : Int) ≤ left
  · go_enter Try.func8, Try.ntmps8
    go_wp2
    go_loopw [1, 5] (fun l i wr => ∃ k : Nat, k ≤ n ∧ i = .int .i64 (k : Nat) ∧ l = .int .i64 (left - n - (sumD X k : Nat)) ∧ 0 ≤ left - n - (sumD X k : Nat) ∧ Below w.heap.size w wr) (fun _ i _ => n - (intOf i).toNat)
    case atStart => exact ⟨0, by omega, rfl, by simp [sumD], by simp [sumD]; omega, Below.refl _ _⟩
    case round =>
      obtain ⟨k, hk, rfl, rfl, hl, hbel⟩ := hrel
      have HW := Lib.hid hbel
      by_cases hlt : k < n
      · obtain ⟨g, off, rfl, hg, hc0, hc1, hc2⟩ := (HA.out.below hbel).at hlt
        have hds := HD.out _ (getD_lt (z := Dop.zero) (show k < X.length by have := HA.out.1; omega))
        have HST : Hid (sumD X (k + 1) = sumD X k + (X.getD k Dop.zero).x.size) := by show _ = _; rw [sumD]
        have HMN : Hid (sumD X (k + 1) ≤ sumD X n) := Lib.hid (sumD_mono (by omega))
        clear hbel
        generalize X.getD k Dop.zero = p at hc0 hc1 hc2 hds HST
        generalize sumD X k = s at hl HST
        by_cases hfit : (p.x.size : Int) ≤ left - n - s
        · have hz := szD_ok hfit
          go_wp2_with fail
          refine (szDop_any p _ _ hl (by omega) hds).mono ?_
          rintro e w2 ⟨rfl, hb2⟩
          have HB2 := Lib.hid (HW.out.trans (hb2.mono HW.out.size))
          clear hb2
          have hnn : 0 ≤ left - n - s - p.x.size := by omega
          go_wp2
          go_roundw
          case rel => exact ⟨k + 1, by omega, by go_num, by rw [HST.out]; go_num, by rw [HST.out]; omega, HB2.out⟩
          case measure => simp [intOf]; omega
        · have hz := szD_no (t := p.x.size) (left := left - n - s) (by omega)
          go_wp2_with fail
          refine (szDop_any p _ _ hl (by omega) hds).mono ?_
          rintro e w2 ⟨rfl, hb2⟩
          have HB2 := Lib.hid (HW.out.trans (hb2.mono HW.out.size))
          clear hb2
          go_wp2
          go_ret
          exact ⟨ret_i (szD_no (by have := HST.out; have := HMN.out; omega)).symm, HB2.out⟩
      · clear hbel
        obtain rfl : k = n := by omega
        go_wp2
        go_ret
        exact ⟨ret_i (by rw [szD_ok (by omega)]; omega), HW.out⟩
  · rw [szD_no (by omega)]
    go_enter Try.func8, Try.ntmps8
    go_wp2
    go_ret
    exact ⟨rfl, Below.refl _ _⟩

set_option maxHeartbeats 1000000 in
theorem toDop_any (r : Dop) (w : World) : Calls Try.prog 27 #[dopV r] w fun e w' => e = .returned (dopV r) ∧ Below w.heap.size w w' := by
  obtain ⟨f, c, x⟩ := r
  go_enter Try.func27, Try.ntmps27
  go_wp2
  refine bodyPost_ret (v := dopV ⟨f, c, x⟩) (by simp [results, Try.results27, go_sem]) rfl ⟨rfl, ?_⟩
  repeat (with_reducible refine Below.setCell ?_ ?_ _)
  all_goals first | exact (((Below.refl _ _).alloc (Nat.le_refl _) _).alloc (by simp) _).alloc (by simp; omega) _ | (dsimp only; omega) | (simp; omega)

theorem info_dop : (Try.prog.info? 46).map (fun i => (i.zero, i.size, i.bytes)) = some (some (.agg #[.int .i64 0, .int .i64 0, .string ⟨#[]⟩]), 3, 32) := by kernel_rfl

set_option maxHeartbeats 1000000 in
theorem toDops_any (A : Option Addr) (n ca : Nat) (X : List Dop) (w : World) (hn : n ≤ 2147483648) (hA : RdDo w w.heap.size A n X) :
    Calls Try.prog 10 #[.slice A n ca] w fun e w' => e = .returned (.slice (some ⟨w.heap.size, 0, none⟩) n n) ∧ OwDo w' w.heap.size w'.heap.size (some ⟨w.heap.size, 0, none⟩) n X ∧ Below w.heap.size w w' := by
  have HA := Lib.hid hA; clear hA
  have hmk := fun W => run_makeN (P := Try.prog) 25 46 _ _ _ Try.underlying25 info_dop n (by omega) (by omega) W
  go_enter Try.func10, Try.ntmps10
  go_wp2
  have hr := row_made w 46 #[.int .i64 0, .int .i64 0, .string ⟨#[]⟩] (n * 3) (dopF []) (fun i hi => by
    have h6 : i % 3 = 0 ∨ i % 3 = 1 ∨ i % 3 = 2 := by omega
    unfold dopF
    rcases h6 with h | h | h <;> simp [h, Dop.zero])
  generalize hW : w.alloc (.cells (madeCells #[.int .i64 0, .int .i64 0, .string ⟨#[]⟩] (n * 3)) 46) = w1 at hr
  have HB1 : Hid (Below w.heap.size w w1) := by rw [← hW]; exact (Below.refl _ _).alloc (Nat.le_refl _) _
  have HR := Lib.hid hr
  clear hr hW
  go_loopw [4] (fun i wr => ∃ k : Nat, k ≤ n ∧ i = .int .i64 (k : Nat) ∧ Row wr w.heap.size (n * 3) (upto k 3 (dopF X) (dopF [])) ∧ Below w.heap.size w wr) (fun i _ => n - (intOf i).toNat)
  case atStart => exact ⟨0, by omega, rfl, HR.out.congr (fun i _ => (upto_zero i).symm), HB1.out⟩
  case round =>
    obtain ⟨k, hk, rfl, hrow, hbel⟩ := hrel
    have HW := Lib.hid hbel; have HRW := Lib.hid hrow
    by_cases hlt : k < n
    · obtain ⟨g, off, rfl, hg, hc0, hc1, hc2⟩ := (HA.out.below hbel).at hlt
      clear hbel hrow
      go_wp2_with fail
      refine (toDop_any (X.getD k Dop.zero) _).mono ?_
      rintro e w2 ⟨rfl, hb2⟩
      have HR2 := Lib.hid (HRW.out.below hb2 HRW.out.lt)
      have HB2 := Lib.hid (HW.out.trans (hb2.mono HW.out.size))
      clear hb2
      have he0 := HR2.out.cell (i := k * 3) (by omega)
      have he1 := HR2.out.cell (i := k * 3 + 1) (by omega)
      have he2 := HR2.out.cell (i := k * 3 + 2) (by omega)
      have hf0 := HR2.out.free (k * 3)
      have hf1 := HR2.out.free (k * 3 + 1)
      have hf2 := HR2.out.free (k * 3 + 2)
      go_wp2
      go_roundw
      case rel => exact ⟨k + 1, by omega, by go_num, (((HR2.out.set _ _).set _ _).set _ _).congr (fun i _ => upto_set3 (dopF_0 X k) (dopF_1 X k) (dopF_2 X k)), ((HB2.out.setCell (Nat.le_refl _) _).setCell (Nat.le_refl _) _).setCell (Nat.le_refl _) _⟩
      case measure => simp [intOf]; omega
    · clear hbel hrow
      obtain rfl : k = n := by omega
      go_wp2
      go_ret
      exact ⟨rfl, ⟨HA.out.1, fun _ => ⟨_, rfl, Nat.le_refl _, HRW.out.lt, HRW.out.congr (fun i hi => upto_lt hi)⟩⟩, HW.out⟩

set_option maxHeartbeats 1000000 in
theorem eqDop_same (r : Dop) (w : World) : Calls Try.prog 29 #[dopV r, dopV r] w fun e w' => e = .returned (.bool true) ∧ Below w.heap.size w w' := by
  obtain ⟨f, c, x⟩ := r
  go_enter Try.func29, Try.ntmps29
  go_wp2
  go_ret
  exact ⟨rfl, ((Below.refl _ _).alloc (Nat.le_refl _) _).alloc (by simp) _⟩

set_option maxHeartbeats 1000000 in
theorem eqDops_same (A B : Option Addr) (n ca cb : Nat) (X : List Dop) (w : World) (hn : n ≤ 2147483648) (hA : RdDo w w.heap.size A n X) (hB : RdDo w w.heap.size B n X) :
    Calls Try.prog 12 #[.slice A n ca, .slice B n cb] w fun e w' => e = .returned (.bool true) ∧ Below w.heap.size w w' := by
  have HA := Lib.hid hA; have HB := Lib.hid hB; clear hA hB
  go_enter Try.func12, Try.ntmps12
  go_wp2
  go_loopw [5] (fun i wr => ∃ k : Nat, k ≤ n ∧ i = .int .i64 (k : Nat) ∧ Below w.heap.size w wr) (fun i _ => n - (intOf i).toNat)
  case atStart => exact ⟨0, by omega, rfl, Below.refl _ _⟩
  case round =>
    obtain ⟨k, hk, rfl, hbel⟩ := hrel
    have HW := Lib.hid hbel
    by_cases hlt : k < n
    · obtain ⟨g, off, rfl, hg, hc0, hc1, hc2⟩ := (HA.out.below hbel).at hlt
      obtain ⟨g', off', rfl, hg', hd0, hd1, hd2⟩ := (HB.out.below hbel).at hlt
      clear hbel
      go_wp2
      have hc0' := cell_regrown hc0; have hc1' := cell_regrown hc1; have hc2' := cell_regrown hc2
      have hd0' := cell_regrown hd0; have hd1' := cell_regrown hd1; have hd2' := cell_regrown hd2
      refine wp_region_quiet_below (by kernel_rfl) (by kernel_rfl) ?_
      repeat (go_big_quiet_step ((go_at_call 29; exact Calls.regrown_of (eqDop_same (X.getD k Dop.zero) _))))
      refine wpQuiet_nil ?_
      intro w2 hw'
      have hb2 : Below wr.heap.size wr w2 := by obtain ⟨⟨dq, osq⟩, rfl⟩ := hw'; exact below_regrown wr dq osq
      clear hw'
      have HB2 := Lib.hid (HW.out.trans (hb2.mono HW.out.size))
      clear hb2
      go_wp2
      go_roundw
      case rel => exact ⟨k + 1, by omega, by go_num, HB2.out⟩
      case measure => simp [intOf]; omega
    · clear hbel
      go_wp2
      go_ret
      exact ⟨rfl, HW.out⟩
end Go.Proofs.Ytpgemeojhbeooaa
