/-
  The laws' own steps over histories: their measure, their copies, their comparisons.
-/
import Derived.Test.YtginfgepamidkaaDoorProg
import Derived.KernelRfl
import Derived.Test.YtginfgepamidkaaDoorHsMem
import Derived.Test.YtginfgepamidkaaDoorRcOpen
import Derived.StillTailTactics
import Derived.Deep.QuietTactic
import Derived.BigQuiet
import Derived.Lib.QuietBelow
import Derived.Laws.MakeOwn
namespace Go.Proofs.YtginfgepamidkaaDoor
open Go.RowKit
open Bt (Rc)

theorem info_recL : (Tryd.prog.info? 52).map (fun i => (i.zero, i.size, i.bytes)) = some (some (.agg #[.int .i64 0, .int .i64 0, .int .i64 0, .int .i64 0, .int .i64 0, .string ⟨#[]⟩]), 6, 56) := by kernel_rfl

set_option maxHeartbeats 1000000 in
theorem eqRecL_same (r : Rc) (w : World) : Calls Tryd.prog 31 #[recV r, recV r] w fun e w' => e = .returned (.bool true) ∧ Below w.heap.size w w' := by
  obtain ⟨k, s, q, t, o, d⟩ := r
  go_enter Tryd.func31, Tryd.ntmps31
  go_wp2
  go_ret
  exact ⟨rfl, ((Below.refl _ _).alloc (Nat.le_refl _) _).alloc (by simp) _⟩

set_option maxHeartbeats 1000000 in
theorem eqRecS_same (A B : Option Addr) (n ca cb : Nat) (X : List Rc) (w : World) (hn : n ≤ 2147483648) (hA : RdRc w w.heap.size A n X) (hB : RdRc w w.heap.size B n X) :
    Calls Tryd.prog 20 #[.slice A n ca, .slice B n cb] w fun e w' => e = .returned (.bool true) ∧ Below w.heap.size w w' := by
  have HA := Lib.hid hA; have HB := Lib.hid hB; clear hA hB
  go_enter Tryd.func20, Tryd.ntmps20
  go_wp2
  go_loopw [5] (fun i wr => ∃ k : Nat, k ≤ n ∧ i = .int .i64 (k : Nat) ∧ Below w.heap.size w wr) (fun i _ => n - (intOf i).toNat)
  case atStart => exact ⟨0, by omega, rfl, Below.refl _ _⟩
  case round =>
    obtain ⟨k, hk, rfl, hbel⟩ := hrel
    have HW := Lib.hid hbel
    by_cases hlt : k < n
    · obtain ⟨g, off, rfl, hg, hc0, hc1, hc2, hc3, hc4, hc5⟩ := (HA.out.below hbel).at hlt
      obtain ⟨g', off', rfl, hg', hd0, hd1, hd2, hd3, hd4, hd5⟩ := (HB.out.below hbel).at hlt
      clear hbel
      go_wp2
      have hc0' := cell_regrown hc0; have hc1' := cell_regrown hc1; have hc2' := cell_regrown hc2; have hc3' := cell_regrown hc3; have hc4' := cell_regrown hc4; have hc5' := cell_regrown hc5
      have hd0' := cell_regrown hd0; have hd1' := cell_regrown hd1; have hd2' := cell_regrown hd2; have hd3' := cell_regrown hd3; have hd4' := cell_regrown hd4; have hd5' := cell_regrown hd5
      refine wp_region_quiet_below (by kernel_rfl) (by kernel_rfl) ?_
      repeat (go_big_quiet_step ((go_at_call 31; exact Calls.regrown_of (eqRecL_same (X.getD k Rc.zero) _))))
      refine wpQuiet_nil ?_
      intro w2 hw'
      have hb2 : Below wr.heap.size wr w2 := by obtain ⟨⟨dq, osq⟩, rfl⟩ := hw'; exact below_regrown wr dq osq
      clear hw'
      have HB2 := Lib.hid (HW.out.trans (hb2.mono HW.out.size))
      clear hb2
      go_wp2
      go_roundw
      case rel => exact ⟨k + 1, by omega, by go_num, HB2.out⟩
      case measure => simp [intOf]; omega
    · clear hbel
      go_wp2
      go_ret
      exact ⟨rfl, HW.out⟩

set_option maxHeartbeats 1000000 in
theorem eqHist_same (A B : Option Addr) (n ca cb : Nat) (X : List Rc) (w : World) (hn : n ≤ 2147483648) (hA : RdRc w w.heap.size A n X) (hB : RdRc w w.heap.size B n X) :
    Calls Tryd.prog 15 #[.agg #[.slice A n ca], .agg #[.slice B n cb]] w fun e w' => e = .returned (.bool true) ∧ Below w.heap.size w w' := by
  have HA := Lib.hid hA; have HB := Lib.hid hB; clear hA hB
  go_enter Tryd.func15, Tryd.ntmps15
  go_wp2_with fail
  have hb0 : Below w.heap.size w ((w.alloc (.cells #[.slice A n ca] 27)).alloc (.cells #[.slice B n cb] 27)) := ((Below.refl _ _).alloc (Nat.le_refl _) _).alloc (by simp) _
  refine (eqRecS_same A B n ca cb X _ hn (HA.out.next hb0) (HB.out.next hb0)).mono ?_
  rintro e w1 ⟨rfl, hb⟩
  have HB1 := Lib.hid (hb0.trans (hb.mono hb0.size))
  clear hb hb0
  go_wp2
  go_ret
  exact ⟨rfl, HB1.out⟩
end Go.Proofs.YtginfgepamidkaaDoor
