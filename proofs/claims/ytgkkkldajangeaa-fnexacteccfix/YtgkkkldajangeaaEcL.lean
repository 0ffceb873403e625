/-
  The law's comparison of two equal answers of EccFix.
-/
import Derived.Test.YtgkkkldajangeaaProg
import Derived.KernelRfl
import Derived.Test.YtgkkkldajangeaaEcS
namespace Go.Proofs.Ytgkkkldajangeaa
open Go.RowKit

set_option maxHeartbeats 2000000 in
theorem eqFixOut_same (s : ByteArray) (a c : Int) (w : World) :
    Calls Try.prog 44 #[.agg #[.string s, .int .i64 a, .int .i64 c], .agg #[.string s, .int .i64 a, .int .i64 c]] w fun e w' => e = .returned (.bool true) ∧ Below w.heap.size w w' := by
  go_enter Try.func44, Try.ntmps44
  go_wp2
  go_ret
  exact ⟨rfl, ((Below.refl _ _).alloc (Nat.le_refl _) _).alloc (by simp) _⟩
end Go.Proofs.Ytgkkkldajangeaa
