/-
  Lists of strings in memory, and the laws' own steps over them: comparing, marking, looking at the marks.
-/
import Derived.Test.YtdeagcdafcfimaaGreatDoorProg
import Derived.KernelRfl
import Derived.Test.YtdeagcdafcfimaaGreatDoorBtMem
import Derived.Test.YtdeagcdafcfimaaGreatDoorNdMem
import Derived.Test.YtdeagcdafcfimaaGreatDoorNdMark
import Derived.Test.YtdeagcdafcfimaaGreatDoorNdHeld
import Derived.Test.YtdeagcdafcfimaaGreatDoorHsNum
import Derived.BigQuiet
import Derived.Lib.QuietBelow
namespace Go.Proofs.YtdeagcdafcfimaaGreatDoor
open Go.RowKit

/-- strings marked from k on -/
def mkS (k c : Nat) : Value := strV (mkT (k + c))
/-- a row of strings -/
def ssF (L : List (List UInt8)) (c : Nat) : Value := strV (L.getD c [])

set_option maxHeartbeats 1000000 in
theorem eqStringS_row (g g' n ca cb : Nat) (L : List (List UInt8)) (w : World) (hn : n ≤ 2147483648) (hA : Row w g n (ssF L)) (hB : Row w g' n (ssF L)) :
    Calls Tryz.prog 14 #[.slice (some ⟨g, 0, none⟩) n ca, .slice (some ⟨g', 0, none⟩) n cb] w fun e w' => e = .returned (.bool true) ∧ Below w.heap.size w w' := by
  have HA := Lib.hid hA; have HB := Lib.hid hB; clear hA hB
  go_enter Tryz.func14, Tryz.ntmps14
  go_wp2
  go_loopw [5] (fun i wr => ∃ k : Nat, k ≤ n ∧ i = .int .i64 (k : Nat) ∧ Below w.heap.size w wr) (fun i _ => n - (intOf i).toNat)
  case atStart => exact ⟨0, by omega, rfl, Below.refl _ _⟩
  case round =>
    obtain ⟨k, hk, rfl, hbel⟩ := hrel
    have HW := Lib.hid hbel
    by_cases hlt : k < n
    · have hc := (HA.out.below hbel HA.out.lt).cell hlt
      have hd := (HB.out.below hbel HB.out.lt).cell hlt
      simp only [ssF] at hc hd
      have hq := heldText_eq (L.getD k [])
      generalize L.getD k [] = z at *
      clear hbel
      have hki : (k : Int) < (n : Int) := by omega
      have hk0 : (0 : Int) ≤ (k : Int) := by omega
      go_wp2
      refine wp_region_quiet_below (by kernel_rfl) (by kernel_rfl) ?_
      have hc' := cell_regrown hc; have hd' := cell_regrown hd
      repeat (go_big_quiet_step (fail))
      refine wpQuiet_nil ?_
      intro w2 hw'
      have hb2 : Below wr.heap.size wr w2 := by obtain ⟨⟨dq, osq⟩, rfl⟩ := hw'; exact below_regrown wr dq osq
      clear hw'
      have HB2 := Lib.hid (HW.out.trans (hb2.mono HW.out.size))
      clear hb2
      go_wp2
      go_roundw
      case rel => exact ⟨k + 1, by omega, by go_num, HB2.out⟩
      case measure => simp [intOf]; omega
    · clear hbel
      go_wp2
      go_ret
      exact ⟨rfl, HW.out⟩

set_option maxHeartbeats 1000000 in
theorem markStringS_row (g n ca k : Nat) (f : Nat → Value) (w : World) (hn : n ≤ 1048576) (hk : k ≤ 16777216) (hA : Row w g n f) :
    Calls Tryz.prog 15 #[.slice (some ⟨g, 0, none⟩) n ca, .int .i64 (k : Int)] w fun e w' => e = .returned (.int .i64 ((k + n : Nat) : Int)) ∧ Row w' g n (mkS k) ∧ Btw g (g + 1) w w' := by
  have HA := Lib.hid hA; have hg := hA.lt; clear hA
  go_enter Tryz.func15, Tryz.ntmps15
  go_wp2
  go_loopw [1, 5] (fun l i wr => ∃ j : Nat, j ≤ n ∧ i = .int .i64 (j : Nat) ∧ l = .int .i64 ((k + j : Nat) : Int) ∧ Row wr g n (upto j 1 (mkS k) f) ∧ Btw g (g + 1) w wr) (fun _ i _ => n - (intOf i).toNat)
  case atStart => exact ⟨0, by omega, rfl, by simp, HA.out.congr (fun i _ => (upto_zero i).symm), Btw.refl _ _ _⟩
  case round =>
    obtain ⟨j, hj, rfl, rfl, hr, hbel⟩ := hrel
    have HR := Lib.hid hr; have HW := Lib.hid hbel
    have hgr : g < wr.heap.size := hr.lt
    by_cases hlt : j < n
    · have hc0 := hr.cell (i := j) (by omega)
      have hf0 := hr.free j
      obtain ⟨m, hm⟩ : ∃ m, m = k + j := ⟨_, rfl⟩
      have HM := Lib.hid hm
      have hm2 : m ≤ 67108864 := by omega
      rw [← hm]
      clear hr hbel hm
      go_wp2_with fail
      refine (markText_any m _ (by omega)).mono ?_
      rintro e w2 ⟨rfl, hb2⟩
      have hr2 := HR.out.below hb2 hgr
      have HB2 := Lib.hid (HW.out.trans (Btw.of_below hb2))
      have HR2 := Lib.hid hr2
      have hc1 := hr2.cell (i := j) (by omega)
      have hf1 := hr2.free j
      clear hb2 hr2 hc0 hf0
      go_wp2
      go_roundw
      case rel => exact ⟨j + 1, by omega, by go_num, by have := HM.out; go_num, (HR2.out.set _ _).congr (fun i _ => upto_set1 (by unfold mkS; rw [← HM.out])), HB2.out.setCell (.inl ⟨by simp, by simp⟩) _⟩
      case measure => simp [intOf]; omega
    · clear hr hbel
      obtain rfl : j = n := by omega
      go_wp2
      go_ret
      exact ⟨rfl, HR.out.congr (fun i hi => upto_lt (by omega)), HW.out⟩

set_option maxHeartbeats 1000000 in
theorem heldStringS_row (g n ca k : Nat) (w : World) (hn : n ≤ 1048576) (hk : k ≤ 16777216) (hA : Row w g n (mkS k)) :
    Calls Tryz.prog 16 #[.slice (some ⟨g, 0, none⟩) n ca, .int .i64 (k : Int)] w fun e w' => e = .returned (.int .i64 ((k + n : Nat) : Int)) ∧ Below w.heap.size w w' := by
  have HA := Lib.hid hA; have hg := hA.lt; clear hA
  go_enter Tryz.func16, Tryz.ntmps16
  go_wp2
  go_loopw [1, 5] (fun l i wr => ∃ j : Nat, j ≤ n ∧ i = .int .i64 (j : Nat) ∧ l = .int .i64 ((k + j : Nat) : Int) ∧ Below w.heap.size w wr) (fun _ i _ => n - (intOf i).toNat)
  case atStart => exact ⟨0, by omega, rfl, by simp, Below.refl _ _⟩
  case round =>
    obtain ⟨j, hj, rfl, rfl, hbel⟩ := hrel
    have HW := Lib.hid hbel
    by_cases hlt : j < n
    · have hr := HA.out.below hbel hg
      have hc0 := hr.cell (i := j) (by omega)
      obtain ⟨m, hm⟩ : ∃ m, m = k + j := ⟨_, rfl⟩
      have HM := Lib.hid hm
      have hm2 : m ≤ 67108864 := by omega
      rw [show mkS k j = strV (mkT m) by unfold mkS; rw [hm]] at hc0
      rw [← hm]
      clear hr hbel hm
      have hq := heldText_eq (mkT m)
      generalize hT : mkT m = T at hc0 hq
      have HT := Lib.hid hT; clear hT
      have HMT := Lib.hid (fun W => markText_any m W (by omega))
      rw [HT.out] at HMT
      go_wp2
      have hc0' := cell_regrown hc0
      refine wp_region_quiet_below (by kernel_rfl) (by kernel_rfl) ?_
      repeat (go_big_quiet_step ((go_at_call 31; exact Calls.regrown_of (HMT.out _))))
      refine wpQuiet_nil ?_
      intro w2 hw'
      have hb2 : Below wr.heap.size wr w2 := by obtain ⟨⟨dq, osq⟩, rfl⟩ := hw'; exact below_regrown wr dq osq
      clear hw'
      have HB2 := Lib.hid (HW.out.trans (hb2.mono HW.out.size))
      clear hb2
      go_wp2
      go_roundw
      case rel => exact ⟨j + 1, by omega, by go_num, by have := HM.out; go_num, HB2.out⟩
      case measure => simp [intOf]; omega
    · clear hbel
      obtain rfl : j = n := by omega
      go_wp2
      go_ret
      exact ⟨ret_i (by omega), HW.out⟩
end Go.Proofs.YtdeagcdafcfimaaGreatDoor
