/-
  The laws' own steps over histories: their measure, their copies, their comparisons.
-/
import Derived.Test.YtimlaeicbnnbdaaDoorChecked
import Derived.Test.YtimlaeicbnnbdaaDoorHsMem
import Derived.Test.YtimlaeicbnnbdaaDoorRcOpen
import Derived.StillTailTactics
import Derived.Deep.QuietTactic
import Derived.BigQuiet
import Derived.Lib.QuietBelow
import Derived.Laws.MakeOwn
namespace Go.Proofs.YtimlaeicbnnbdaaDoor
open Go.RowKit
open Bt (Rc)

set_option maxHeartbeats 1000000 in
theorem szRec_gen (r : Rc) (left : Int) (w : World) (h0 : 0 ≤ left) (h1 : left ≤ 1048576) (hd : r.d.size ≤ 9223372036854775807) :
    Calls Tryd.prog 15 #[recV r, .int .i64 left] w fun e w' => e = .returned (.int .i64 (szR r.d.size left)) ∧ Below w.heap.size w w' := by
  obtain ⟨k, s, q, t, o, d⟩ := r
  simp only at hd ⊢
  by_cases hc : (d.size : Int) ≤ left
  · rw [szR_ok hc]
    go_enter Tryd.func15, Tryd.ntmps15
    go_wp2
    go_ret
    exact ⟨rfl, (Below.refl _ _).alloc (Nat.le_refl _) _⟩
  · rw [szR_no (by omega)]
    go_enter Tryd.func15, Tryd.ntmps15
    go_wp2
    go_ret
    exact ⟨rfl, (Below.refl _ _).alloc (Nat.le_refl _) _⟩

theorem info_rec : (Tryd.prog.info? 43).map (fun i => (i.zero, i.size, i.bytes)) = some (some (.agg #[.int .i64 0, .int .i64 0, .int .i64 0, .int .i64 0, .int .i64 0, .string ⟨#[]⟩]), 6, 56) := by kernel_rfl

end Go.Proofs.YtimlaeicbnnbdaaDoor
