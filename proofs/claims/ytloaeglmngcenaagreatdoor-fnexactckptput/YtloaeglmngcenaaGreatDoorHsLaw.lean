/-
  The laws' own steps over histories: their measure, their copies, their comparisons.
-/
import Derived.Test.YtloaeglmngcenaaGreatDoorProg
import Derived.KernelRfl
import Derived.Test.YtloaeglmngcenaaGreatDoorHsMem
import Derived.Test.YtloaeglmngcenaaGreatDoorRcOpen
import Derived.StillTailTactics
import Derived.Deep.QuietTactic
import Derived.BigQuiet
import Derived.Lib.QuietBelow
import Derived.Laws.MakeOwn
namespace Go.Proofs.YtloaeglmngcenaaGreatDoor
open Go.RowKit
open Bt (Rc)

set_option maxHeartbeats 1000000 in
theorem szRec_gen (r : Rc) (left : Int) (w : World) (h0 : 0 ≤ left) (h1 : left ≤ 1048576) (hd : r.d.size ≤ 9223372036854775807) :
    Calls Tryz.prog 191 #[recV r, .int .i64 left] w fun e w' => e = .returned (.int .i64 (szR r.d.size left)) ∧ Below w.heap.size w w' := by
  obtain ⟨k, s, q, t, o, d⟩ := r
  simp only at hd ⊢
  by_cases hc : (d.size : Int) ≤ left
  · rw [szR_ok hc]
    go_enter Tryz.func191, Tryz.ntmps191
    go_wp2
    go_ret
    exact ⟨rfl, (Below.refl _ _).alloc (Nat.le_refl _) _⟩
  · rw [szR_no (by omega)]
    go_enter Tryz.func191, Tryz.ntmps191
    go_wp2
    go_ret
    exact ⟨rfl, (Below.refl _ _).alloc (Nat.le_refl _) _⟩

set_option maxHeartbeats 1000000 in
theorem szRecS_any (A : Option Addr) (n ca : Nat) (X : List Rc) (left : Int) (w : World) (h0 : 0 ≤ left) (h1 : left ≤ 1048576) (hW : WideR X) (hA : RdRc w w.heap.size A n X) :
    Calls Tryz.prog 123 #[.slice A n ca, .int .i64 left] w fun e w' => e = .returned (.int .i64 (szR (szRcs X) left)) ∧ Below w.heap.size w w' := by
  have hn : n ≤ 9223372036854775807 := by rw [← hA.1]; exact hW.1
  have HA := Lib.hid hA; have HD := Lib.hid hW.2; clear hA hW
  obtain ⟨f, hf⟩ : ∃ f, f = fun i => (X.getD i Rc.zero).d.size := ⟨_, rfl⟩
  have HS : Hid (szRcs X = n + sumTo f n) := by show szRcs X = _; rw [szRcs, HA.out.1, hf]
  have HF := Lib.hid hf; clear hf
  rw [HS.out]
  by_cases hc : (n : Int) ≤ left
  · go_enter Tryz.func123, Tryz.ntmps123
    go_wp2
    go_loopw [1, 5] (fun l i wr => ∃ k : Nat, k ≤ n ∧ i = .int .i64 (k : Nat) ∧ l = .int .i64 (left - n - (sumTo f k : Nat)) ∧ 0 ≤ left - n - (sumTo f k : Nat) ∧ Below w.heap.size w wr) (fun _ i _ => n - (intOf i).toNat)
    case atStart => exact ⟨0, by omega, rfl, by simp [sumTo], by simp [sumTo]; omega, Below.refl _ _⟩
    case round =>
      obtain ⟨k, hk, rfl, rfl, hl, hbel⟩ := hrel
      have HW := Lib.hid hbel
      by_cases hlt : k < n
      · obtain ⟨g, off, rfl, hg, hc0, hc1, hc2, hc3, hc4, hc5⟩ := (HA.out.below hbel).at hlt
        have hds := HD.out _ (getD_lt (z := Rc.zero) (show k < X.length by have := HA.out.1; omega))
        have hfk : f k = (X.getD k Rc.zero).d.size := by rw [HF.out]
        have HST : Hid (sumTo f (k + 1) = sumTo f k + (X.getD k Rc.zero).d.size) := by show _ = _; rw [sumTo, hfk]
        have HMN : Hid (sumTo f (k + 1) ≤ sumTo f n) := Lib.hid (sumTo_mono (by omega))
        clear hbel hfk
        generalize X.getD k Rc.zero = p at hc0 hc1 hc2 hc3 hc4 hc5 hds HST
        generalize sumTo f k = s at hl HST
        by_cases hfit : (p.d.size : Int) ≤ left - n - s
        · have hz := szR_ok hfit
          go_wp2_with fail
          refine (szRec_gen p _ _ hl (by omega) hds).mono ?_
          rintro e w2 ⟨rfl, hb2⟩
          have HB2 := Lib.hid (HW.out.trans (hb2.mono HW.out.size))
          clear hb2
          have hnn : 0 ≤ left - n - s - p.d.size := by omega
          go_wp2
          go_roundw
          case rel => exact ⟨k + 1, by omega, by go_num, by rw [HST.out]; go_num, by rw [HST.out]; omega, HB2.out⟩
          case measure => simp [intOf]; omega
        · have hz := szR_no (t := p.d.size) (left := left - n - s) (by omega)
          go_wp2_with fail
          refine (szRec_gen p _ _ hl (by omega) hds).mono ?_
          rintro e w2 ⟨rfl, hb2⟩
          have HB2 := Lib.hid (HW.out.trans (hb2.mono HW.out.size))
          clear hb2
          go_wp2
          go_ret
          exact ⟨ret_i (szR_no (by have := HST.out; have := HMN.out; omega)).symm, HB2.out⟩
      · clear hbel
        obtain rfl : k = n := by omega
        go_wp2
        go_ret
        exact ⟨ret_i (by rw [szR_ok (by omega)]; omega), HW.out⟩
  · rw [szR_no (by omega)]
    go_enter Tryz.func123, Tryz.ntmps123
    go_wp2
    go_ret
    exact ⟨rfl, Below.refl _ _⟩

set_option maxHeartbeats 1000000 in
theorem szHist_any (A : Option Addr) (n ca : Nat) (X : List Rc) (left : Int) (w : World) (h0 : 0 ≤ left) (h1 : left ≤ 1048576) (hW : WideR X) (hA : RdRc w w.heap.size A n X) :
    Calls Tryz.prog 53 #[.agg #[.slice A n ca], .int .i64 left] w fun e w' => e = .returned (.int .i64 (szR (szRcs X) left)) ∧ Below w.heap.size w w' := by
  have HA := Lib.hid hA; have HW := Lib.hid hW; clear hA hW
  go_enter Tryz.func53, Tryz.ntmps53
  go_wp2_with fail
  refine (szRecS_any A n ca X left _ h0 h1 HW.out (HA.out.next ((Below.refl _ _).alloc (Nat.le_refl _) _))).mono ?_
  rintro e w1 ⟨rfl, hb⟩
  have HB := Lib.hid (((Below.refl w.heap.size w).alloc (Nat.le_refl _) _).trans (hb.mono (by simp)))
  clear hb
  by_cases hc : ((szRcs X : Nat) : Int) ≤ left
  · have hz := szR_ok hc
    have hnn : 0 ≤ left - (szRcs X : Nat) := by omega
    go_wp2
    go_ret
    exact ⟨ret_i hz.symm, HB.out⟩
  · have hz := szR_no (t := szRcs X) (left := left) (by omega)
    go_wp2
    go_ret
    exact ⟨ret_i hz.symm, HB.out⟩

theorem info_recL : (Tryz.prog.info? 34).map (fun i => (i.zero, i.size, i.bytes)) = some (some (.agg #[.int .i64 0, .int .i64 0, .int .i64 0, .int .i64 0, .int .i64 0, .string ⟨#[]⟩]), 6, 56) := by kernel_rfl

set_option maxHeartbeats 1000000 in
theorem toRecS_any (A : Option Addr) (n ca : Nat) (X : List Rc) (w : World) (hn : n ≤ 2147483648) (hA : RdRc w w.heap.size A n X) :
    Calls Tryz.prog 128 #[.slice A n ca] w fun e w' => e = .returned (.slice (some ⟨w.heap.size, 0, none⟩) n n) ∧ Row w' w.heap.size (n * 6) (rcF X) ∧ Below w.heap.size w w' := by
  have HA := Lib.hid hA; clear hA
  have hmk := fun W => run_makeN (P := Tryz.prog) 27 34 _ _ _ Tryz.underlying27 info_recL n (by omega) (by omega) W
  go_enter Tryz.func128, Tryz.ntmps128
  go_wp2
  have hr := row_made w 34 #[.int .i64 0, .int .i64 0, .int .i64 0, .int .i64 0, .int .i64 0, .string ⟨#[]⟩] (n * 6) (rcF []) (fun i hi => by
    have h6 : i % 6 = 0 ∨ i % 6 = 1 ∨ i % 6 = 2 ∨ i % 6 = 3 ∨ i % 6 = 4 ∨ i % 6 = 5 := by omega
    unfold rcF
    rcases h6 with h | h | h | h | h | h <;> simp [h, Rc.zero])
  generalize hW : w.alloc (.cells (madeCells #[.int .i64 0, .int .i64 0, .int .i64 0, .int .i64 0, .int .i64 0, .string ⟨#[]⟩] (n * 6)) 34) = w1 at hr
  have HB1 : Hid (Below w.heap.size w w1) := by rw [← hW]; exact (Below.refl _ _).alloc (Nat.le_refl _) _
  have HR := Lib.hid hr
  clear hr hW
  go_loopw [4] (fun i wr => ∃ k : Nat, k ≤ n ∧ i = .int .i64 (k : Nat) ∧ Row wr w.heap.size (n * 6) (upto k 6 (rcF X) (rcF [])) ∧ Below w.heap.size w wr) (fun i _ => n - (intOf i).toNat)
  case atStart => exact ⟨0, by omega, rfl, HR.out.congr (fun i _ => (upto_zero i).symm), HB1.out⟩
  case round =>
    obtain ⟨k, hk, rfl, hrow, hbel⟩ := hrel
    have HW := Lib.hid hbel; have HRW := Lib.hid hrow
    by_cases hlt : k < n
    · obtain ⟨g, off, rfl, hg, hc0, hc1, hc2, hc3, hc4, hc5⟩ := (HA.out.below hbel).at hlt
      clear hbel hrow
      go_wp2_with fail
      refine (toRec_any (X.getD k Rc.zero) _).mono ?_
      rintro e w2 ⟨rfl, hb2⟩
      have HR2 := Lib.hid (HRW.out.below hb2 HRW.out.lt)
      have HB2 := Lib.hid (HW.out.trans (hb2.mono HW.out.size))
      clear hb2
      have he0 := HR2.out.cell (i := k * 6) (by omega)
      have he1 := HR2.out.cell (i := k * 6 + 1) (by omega)
      have he2 := HR2.out.cell (i := k * 6 + 2) (by omega)
      have he3 := HR2.out.cell (i := k * 6 + 3) (by omega)
      have he4 := HR2.out.cell (i := k * 6 + 4) (by omega)
      have he5 := HR2.out.cell (i := k * 6 + 5) (by omega)
      have hf0 := HR2.out.free (k * 6)
      have hf1 := HR2.out.free (k * 6 + 1)
      have hf2 := HR2.out.free (k * 6 + 2)
      have hf3 := HR2.out.free (k * 6 + 3)
      have hf4 := HR2.out.free (k * 6 + 4)
      have hf5 := HR2.out.free (k * 6 + 5)
      go_wp2
      go_roundw
      case rel => exact ⟨k + 1, by omega, by go_num, ((((((HR2.out.set _ _).set _ _).set _ _).set _ _).set _ _).set _ _).congr (fun i _ => upto_set6 (rcF_0 X k) (rcF_1 X k) (rcF_2 X k) (rcF_3 X k) (rcF_4 X k) (rcF_5 X k)), (((((HB2.out.setCell (Nat.le_refl _) _).setCell (Nat.le_refl _) _).setCell (Nat.le_refl _) _).setCell (Nat.le_refl _) _).setCell (Nat.le_refl _) _).setCell (Nat.le_refl _) _⟩
      case measure => simp [intOf]; omega
    · clear hbel hrow
      obtain rfl : k = n := by omega
      go_wp2
      go_ret
      exact ⟨rfl, HRW.out.congr (fun i hi => upto_lt hi), HW.out⟩

set_option maxHeartbeats 1000000 in
theorem toHist_any (A : Option Addr) (n ca : Nat) (X : List Rc) (w : World) (hn : n ≤ 2147483648) (hA : RdRc w w.heap.size A n X) :
    Calls Tryz.prog 56 #[.agg #[.slice A n ca]] w fun e w' => e = .returned (.agg #[.slice (some ⟨w.heap.size + 3, 0, none⟩) n n]) ∧ OwRc w' w.heap.size w'.heap.size (some ⟨w.heap.size + 3, 0, none⟩) n X ∧ Below w.heap.size w w' := by
  have HA := Lib.hid hA; clear hA
  go_enter Tryz.func56, Tryz.ntmps56
  go_wp2_with fail
  refine (toRecS_any A n ca X _ hn ?_).mono ?_
  · exact ((HA.out.below (((( Below.refl _ _).alloc (Nat.le_refl _) _).alloc (by simp) _).alloc (by simp; omega) _)).mono (by simp; omega))
  rintro e w4 ⟨rfl, ho, hb4⟩
  have hs : w.heap.size + 3 ≤ w4.heap.size := by have := hb4.size; simp at this; omega
  have k1 := (((isBlk_new (w.alloc _) 29 [Value.slice none 0 0]).alloc _).below hb4 (by simp))
  have k2 := ((isBlk_new ((w.alloc _).alloc _) 29 [Value.slice none 0 0]).below hb4 (by simp))
  have HB4 := Lib.hid ((((( Below.refl w.heap.size w).alloc (Nat.le_refl _) _).alloc (by simp) _).alloc (by simp; omega) _).trans (hb4.mono (by simp; omega)))
  simp only [size_alloc] at k1 k2 ho
  have HO := Lib.hid ho
  have hlt := ho.lt
  have d0 : w4.cell? ⟨_, 0, none⟩ = some _ := k1.cell rfl
  have fd0 : w4.frozen? ⟨_, 0, none⟩ = false := k1.free
  have e0 : w4.cell? ⟨_, 0, none⟩ = some _ := k2.cell rfl
  have fe0 : w4.frozen? ⟨_, 0, none⟩ = false := k2.free
  clear ho hb4 k1 k2
  go_wp2
  refine bodyPost_ret (v := .agg #[.slice (some ⟨w.heap.size + 3, 0, none⟩) n n]) (by simp [results, Tryz.results56, go_sem, d0]) rfl ⟨rfl, ?_, ?_⟩
  · refine ⟨HA.out.1, fun _ => ⟨_, rfl, by omega, by simp [World.setCell]; omega, ?_⟩⟩
    exact Row.other (Row.other HO.out (by dsimp only; omega) _) (by dsimp only; omega) _
  · repeat (with_reducible refine Below.setCell ?_ ?_ _)
    all_goals first | exact HB4.out | (dsimp only; omega)

set_option maxHeartbeats 1000000 in
theorem eqRecL_same (r : Rc) (w : World) : Calls Tryz.prog 202 #[recV r, recV r] w fun e w' => e = .returned (.bool true) ∧ Below w.heap.size w w' := by
  obtain ⟨k, s, q, t, o, d⟩ := r
  go_enter Tryz.func202, Tryz.ntmps202
  go_wp2
  go_ret
  exact ⟨rfl, ((Below.refl _ _).alloc (Nat.le_refl _) _).alloc (by simp) _⟩

set_option maxHeartbeats 1000000 in
theorem eqRecS_same (A B : Option Addr) (n ca cb : Nat) (X : List Rc) (w : World) (hn : n ≤ 2147483648) (hA : RdRc w w.heap.size A n X) (hB : RdRc w w.heap.size B n X) :
    Calls Tryz.prog 136 #[.slice A n ca, .slice B n cb] w fun e w' => e = .returned (.bool true) ∧ Below w.heap.size w w' := by
  have HA := Lib.hid hA; have HB := Lib.hid hB; clear hA hB
  go_enter Tryz.func136, Tryz.ntmps136
  go_wp2
  go_loopw [5] (fun i wr => ∃ k : Nat, k ≤ n ∧ i = .int .i64 (k : Nat) ∧ Below w.heap.size w wr) (fun i _ => n - (intOf i).toNat)
  case atStart => exact ⟨0, by omega, rfl, Below.refl _ _⟩
  case round =>
    obtain ⟨k, hk, rfl, hbel⟩ := hrel
    have HW := Lib.hid hbel
    by_cases hlt : k < n
    · obtain ⟨g, off, rfl, hg, hc0, hc1, hc2, hc3, hc4, hc5⟩ := (HA.out.below hbel).at hlt
      obtain ⟨g', off', rfl, hg', hd0, hd1, hd2, hd3, hd4, hd5⟩ := (HB.out.below hbel).at hlt
      clear hbel
      go_wp2
      have hc0' := cell_regrown hc0; have hc1' := cell_regrown hc1; have hc2' := cell_regrown hc2; have hc3' := cell_regrown hc3; have hc4' := cell_regrown hc4; have hc5' := cell_regrown hc5
      have hd0' := cell_regrown hd0; have hd1' := cell_regrown hd1; have hd2' := cell_regrown hd2; have hd3' := cell_regrown hd3; have hd4' := cell_regrown hd4; have hd5' := cell_regrown hd5
      refine wp_region_quiet_below (by kernel_rfl) (by kernel_rfl) ?_
      repeat (go_big_quiet_step ((go_at_call 202; exact Calls.regrown_of (eqRecL_same (X.getD k Rc.zero) _))))
      refine wpQuiet_nil ?_
      intro w2 hw'
      have hb2 : Below wr.heap.size wr w2 := by obtain ⟨⟨dq, osq⟩, rfl⟩ := hw'; exact below_regrown wr dq osq
      clear hw'
      have HB2 := Lib.hid (HW.out.trans (hb2.mono HW.out.size))
      clear hb2
      go_wp2
      go_roundw
      case rel => exact ⟨k + 1, by omega, by go_num, HB2.out⟩
      case measure => simp [intOf]; omega
    · clear hbel
      go_wp2
      go_ret
      exact ⟨rfl, HW.out⟩

set_option maxHeartbeats 1000000 in
theorem eqHist_same (A B : Option Addr) (n ca cb : Nat) (X : List Rc) (w : World) (hn : n ≤ 2147483648) (hA : RdRc w w.heap.size A n X) (hB : RdRc w w.heap.size B n X) :
    Calls Tryz.prog 59 #[.agg #[.slice A n ca], .agg #[.slice B n cb]] w fun e w' => e = .returned (.bool true) ∧ Below w.heap.size w w' := by
  have HA := Lib.hid hA; have HB := Lib.hid hB; clear hA hB
  go_enter Tryz.func59, Tryz.ntmps59
  go_wp2_with fail
  have hb0 : Below w.heap.size w ((w.alloc (.cells #[.slice A n ca] 29)).alloc (.cells #[.slice B n cb] 29)) := ((Below.refl _ _).alloc (Nat.le_refl _) _).alloc (by simp) _
  refine (eqRecS_same A B n ca cb X _ hn (HA.out.next hb0) (HB.out.next hb0)).mono ?_
  rintro e w1 ⟨rfl, hb⟩
  have HB1 := Lib.hid (hb0.trans (hb.mono hb0.size))
  clear hb hb0
  go_wp2
  go_ret
  exact ⟨rfl, HB1.out⟩
end Go.Proofs.YtloaeglmngcenaaGreatDoor
