/-
  The laws' own comparisons of lists of records, of lists of numbers, of answers that hold a history.
-/
import Derived.Test.YtgkkkldajangeaaProg
import Derived.KernelRfl
import Derived.Test.YtgkkkldajangeaaHsAsOf2
import Derived.Test.YtgkkkldajangeaaHsRight
import Derived.Test.YtgkkkldajangeaaHsNum
import Derived.Test.YtgkkkldajangeaaHsMore
import Derived.BigQuiet
import Derived.Deep.QuietTactic
import Derived.Lib.QuietBelow
namespace Go.Proofs.Ytgkkkldajangeaa
open Go.RowKit
open Bt (Rc)

theorem vo_fields : Try.prog.underlying 43 = some (.struct (Try.prog.fieldsOf 43)) := by kernel_rfl
theorem vo_held : Try.prog.stoodInHeld 43 = false := by kernel_rfl
theorem vo_guard : Try.prog.eqGuardType Try.prog.depth 43 = false := by kernel_rfl
set_option maxHeartbeats 2000000 in
theorem equalIn_vo (v : Vo) (w : World) : (Op.equalIn 10000 43 (voV v) (voV v)).run Try.prog w = .ok true w := by
  obtain ⟨a, b, c⟩ := v
  rw [run_equalIn_agg w 9999 _ _ _ vo_fields vo_held]
  simp [Program.fieldsOf, Try.underlying43, Op.eqFields, part, go_sem, Try.underlying2, Try.underlying9, Try.underlying4]

set_option maxHeartbeats 1000000 in
theorem lwNums_same (A B : Option Addr) (n ca cb : Nat) (L : List Int) (w : World) (hn : n ≤ 2147483648) (hA : RdNs w w.heap.size A n L) (hB : RdNs w w.heap.size B n L) :
    Calls Try.prog 16 #[.slice A n ca, .slice B n cb] w fun e w' => e = .returned (.bool true) ∧ Below w.heap.size w w' := by
  have HA := Lib.hid hA; have HB := Lib.hid hB; clear hA hB
  go_enter Try.func16, Try.ntmps16
  go_wp2
  go_loopw [5] (fun i wr => ∃ k : Nat, k ≤ n ∧ i = .int .i64 (k : Nat) ∧ Below w.heap.size w wr) (fun i _ => n - (intOf i).toNat)
  case atStart => exact ⟨0, by omega, rfl, Below.refl _ _⟩
  case round =>
    obtain ⟨k, hk, rfl, hbel⟩ := hrel
    have HW := Lib.hid hbel
    by_cases hlt : k < n
    · obtain ⟨g, rfl, hg, hr⟩ := (HA.out.below hbel).2 (by omega)
      obtain ⟨g', rfl, hg', hr'⟩ := (HB.out.below hbel).2 (by omega)
      have hc := hr.cell hlt
      have hd := hr'.cell hlt
      simp only [nmF] at hc hd
      generalize L.getD k 0 = z at *
      clear hbel hr hr'
      have hki : (k : Int) < (n : Int) := by omega
      have hk0 : (0 : Int) ≤ (k : Int) := by omega
      go_wp2
      refine wp_region_quiet_below (by kernel_rfl) (by kernel_rfl) ?_
      have hc' := cell_regrown hc; have hd' := cell_regrown hd
      repeat (go_big_quiet_step (fail))
      refine wpQuiet_nil ?_
      intro w2 hw'
      have hb2 : Below wr.heap.size wr w2 := by obtain ⟨⟨dq, osq⟩, rfl⟩ := hw'; exact below_regrown wr dq osq
      clear hw'
      have HB2 := Lib.hid (HW.out.trans (hb2.mono HW.out.size))
      clear hb2
      go_wp2
      go_roundw
      case rel => exact ⟨k + 1, by omega, by go_num, HB2.out⟩
      case measure => simp [intOf]; omega
    · clear hbel
      go_wp2
      go_ret
      exact ⟨rfl, HW.out⟩

theorem rcEq_self (r : Rc) : rcEq r r = true := by unfold rcEq; simp
set_option maxHeartbeats 1000000 in
theorem lwRecs_same (A B : Option Addr) (n ca cb : Nat) (X : List Rc) (w : World) (hn : n ≤ 2147483648) (hA : RdRc w w.heap.size A n X) (hB : RdRc w w.heap.size B n X) :
    Calls Try.prog 33 #[.slice A n ca, .slice B n cb] w fun e w' => e = .returned (.bool true) ∧ Below w.heap.size w w' := by
  have HA := Lib.hid hA; have HB := Lib.hid hB; clear hA hB
  go_enter Try.func33, Try.ntmps33
  go_wp2
  go_loopw [5] (fun i wr => ∃ k : Nat, k ≤ n ∧ i = .int .i64 (k : Nat) ∧ Below w.heap.size w wr) (fun i _ => n - (intOf i).toNat)
  case atStart => exact ⟨0, by omega, rfl, Below.refl _ _⟩
  case round =>
    obtain ⟨k, hk, rfl, hbel⟩ := hrel
    have HW := Lib.hid hbel
    by_cases hlt : k < n
    · obtain ⟨g, off, rfl, hg, a0, a1, a2, a3, a4, a5⟩ := (HA.out.below hbel).at hlt
      obtain ⟨g', off', rfl, hg', b0, b1, b2, b3, b4, b5⟩ := (HB.out.below hbel).at hlt
      clear hbel
      generalize X.getD k Rc.zero = r at a0 a1 a2 a3 a4 a5 b0 b1 b2 b3 b4 b5
      have hne : ∀ W, (Op.equalIn 10000 27 (recV r) (recV r)).run Try.prog W = .ok true W := fun W => by rw [equalIn_rec r r W, rcEq_self]
      have hgu := rec_guard
      have hki : (k : Int) < (n : Int) := by omega
      have hk0 : (0 : Int) ≤ (k : Int) := by omega
      go_wp2
      have a0' := cell_regrown a0; have a1' := cell_regrown a1; have a2' := cell_regrown a2; have a3' := cell_regrown a3; have a4' := cell_regrown a4; have a5' := cell_regrown a5
      have b0' := cell_regrown b0; have b1' := cell_regrown b1; have b2' := cell_regrown b2; have b3' := cell_regrown b3; have b4' := cell_regrown b4; have b5' := cell_regrown b5
      refine wp_region_quiet_below (by kernel_rfl) (by kernel_rfl) ?_
      repeat (go_big_quiet_step (fail))
      refine wpQuiet_nil ?_
      intro w2 hw'
      have hb2 : Below wr.heap.size wr w2 := by obtain ⟨⟨dq, osq⟩, rfl⟩ := hw'; exact below_regrown wr dq osq
      clear hw'
      have HB2 := Lib.hid (HW.out.trans (hb2.mono HW.out.size))
      clear hb2
      go_wp2
      go_roundw
      case rel => exact ⟨k + 1, by omega, by go_num, HB2.out⟩
      case measure => simp [intOf]; omega
    · clear hbel
      go_wp2
      go_ret
      exact ⟨rfl, HW.out⟩

set_option maxHeartbeats 1000000 in
theorem lwHists_same (A B : Option Addr) (n ca cb : Nat) (C : Int) (X : List Rc) (w : World) (hS : SmallR X) (hC : C = 0 → hRight X = true) (hA : RdRc w w.heap.size A n X) (hB : RdRc w w.heap.size B n X) :
    Calls Try.prog 14 #[.agg #[.slice A n ca, .int .i64 C], .agg #[.slice B n cb, .int .i64 C]] w fun e w' => e = .returned (.bool true) ∧ Below w.heap.size w w' := by
  have hn : n ≤ 1048576 := by rw [← hA.1]; exact hS.1
  have HA := Lib.hid hA; have HB := Lib.hid hB; have HC := Lib.hid hC; have HS := Lib.hid hS; clear hA hB hC hS
  go_enter Try.func14, Try.ntmps14
  go_wp2_with fail
  generalize hV : World.alloc (World.alloc w _) _ = v
  have hv : Below w.heap.size w v := by rw [← hV]; exact ((Below.refl _ _).alloc (Nat.le_refl _) _).alloc (by simp) _
  have k0 : IsBlk v w.heap.size 31 [.slice A n ca, .int .i64 C] := by rw [← hV]; exact (isBlk_new w _ _).alloc _
  clear hV
  have HV := Lib.hid hv; have HK := Lib.hid k0; clear hv k0
  refine (lwRecs_same A B n ca cb X v (by omega) (HA.out.next HV.out) (HB.out.next HV.out)).mono ?_
  rintro e u1 ⟨rfl, hb1⟩
  have HB1 := Lib.hid (HV.out.trans (hb1.mono HV.out.size))
  have HK1 := Lib.hid (HK.out.below hb1 HK.out.lt)
  clear hb1 HK
  obtain ⟨c0, c1, -, -⟩ := blk2 HK1.out
  by_cases h0 : C = 0
  · have hX := HC.out h0
    subst h0
    go_wp2_with fail
    refine (spec_histRight_any A n ca X u1 HS.out (HA.out.next HB1.out)).mono ?_
    rintro e u2 ⟨rfl, hb2⟩
    have HB2 := Lib.hid (HB1.out.trans (hb2.mono HB1.out.size))
    clear hb2
    rw [hX]
    go_wp2
    go_ret
    exact ⟨rfl, HB2.out⟩
  · have hci : ((C : Int) == 0) = false := beq_eq_false_iff_ne.2 h0
    go_wp2_with fail
    go_ret
    exact ⟨rfl, HB1.out⟩
end Go.Proofs.Ytgkkkldajangeaa
