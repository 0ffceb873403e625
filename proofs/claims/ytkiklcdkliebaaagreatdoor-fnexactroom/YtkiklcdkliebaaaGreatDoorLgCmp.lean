/-
  The comparison by which firstRecs sorts: cmp.Compare at int64, and the closure.
-/
import Derived.Test.YtkiklcdkliebaaaGreatDoorChecked
import Derived.Test.YtkiklcdkliebaaaGreatDoorRcRight
import Derived.Lib.Small
import Derived.Sort.Grow
import Derived.WalkKit
import Derived.Lib.Hide
namespace Go.Proofs.YtkiklcdkliebaaaGreatDoor
open Go.RowKit
open Bt (Rc)

set_option maxHeartbeats 1000000 in
theorem isNaN64_any (x : Int) (w : World) : Calls Tryz.prog 139 #[.int .i64 x] w fun e w' => e = .returned (.bool false) ∧ w' = w := by
  go_enter Tryz.func139, Tryz.ntmps139
  go_wp2
  go_ret
  exact ⟨by simp, rfl⟩

set_option maxHeartbeats 1000000 in
theorem compare64_any (x y : Int) (w : World) : Calls Tryz.prog 100 #[.int .i64 x, .int .i64 y] w fun e w' => e = .returned (.int .i64 (Lib.compareInt x y)) ∧ w' = w := by
  have HC : Hid (Lib.compareInt x y = if x < y then -1 else if x > y then 1 else 0) := Lib.hid rfl
  generalize Lib.compareInt x y = r at HC ⊢
  go_enter Tryz.func100, Tryz.ntmps100
  go_wp2_with fail
  refine (isNaN64_any x w).mono ?_
  rintro e w1 ⟨rfl, rfl⟩
  go_wp2_with fail
  refine (isNaN64_any y w1).mono ?_
  rintro e w2 ⟨rfl, rfl⟩
  by_cases h1 : x < y
  · have h1' : decide (x < y) = true := decide_eq_true h1
    have HR : Hid (r = -1) := by show _ = _; rw [HC.out, if_pos h1]
    clear HC
    go_wp2
    go_ret
    exact ⟨by rw [HR.out]; rfl, rfl⟩
  · have h1' : decide (x < y) = false := decide_eq_false h1
    by_cases h2 : x > y
    · have h2' : decide (y < x) = true := decide_eq_true h2
      have HR : Hid (r = 1) := by show _ = _; rw [HC.out, if_neg h1, if_pos h2]
      clear HC
      go_wp2
      go_ret
      exact ⟨by rw [HR.out]; rfl, rfl⟩
    · have h2' : decide (y < x) = false := decide_eq_false h2
      have HR : Hid (r = 0) := by show _ = _; rw [HC.out, if_neg h1, if_neg h2]
      clear HC
      go_wp2
      go_ret
      exact ⟨by rw [HR.out]; rfl, rfl⟩

set_option maxHeartbeats 1000000 in
theorem firstRecs1_any (a b : Rc) (w : World) : Calls Tryz.prog 99 #[recV a, recV b] w fun e w' => e = .returned (.int .i64 (Lib.compareInt a.q b.q)) ∧ w' = (w.alloc (.cells (recC a).toArray 71)).alloc (.cells (recC b).toArray 71) := by
  obtain ⟨r, hr⟩ : ∃ r, r = Lib.compareInt a.q b.q := ⟨_, rfl⟩
  have HC : Hid (∀ W, Calls Tryz.prog 100 #[.int .i64 a.q, .int .i64 b.q] W fun e w' => e = .returned (.int .i64 r) ∧ w' = W) := fun W => by rw [hr]; exact compare64_any a.q b.q W
  rw [← hr]
  clear hr
  go_enter Tryz.func99, Tryz.ntmps99
  go_wp2_with fail
  refine (HC.out _).mono ?_
  rintro e w1 ⟨rfl, rfl⟩
  go_wp2
  go_ret
  exact ⟨rfl, rfl⟩
end Go.Proofs.YtkiklcdkliebaaaGreatDoor
