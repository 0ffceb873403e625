/-
  The laws' own steps over histories: their measure, their copies, their comparisons.
-/
import Derived.Test.YtfpibbhcecdbgaaGreatDoorProg
import Derived.KernelRfl
import Derived.Test.YtfpibbhcecdbgaaGreatDoorHsMem
import Derived.Test.YtfpibbhcecdbgaaGreatDoorRcOpen
import Derived.StillTailTactics
import Derived.Deep.QuietTactic
import Derived.BigQuiet
import Derived.Lib.QuietBelow
import Derived.Laws.MakeOwn
namespace Go.Proofs.YtfpibbhcecdbgaaGreatDoor
open Go.RowKit
open Bt (Rc)

theorem info_recL : (Tryz.prog.info? 68).map (fun i => (i.zero, i.size, i.bytes)) = some (some (.agg #[.int .i64 0, .int .i64 0, .int .i64 0, .int .i64 0, .int .i64 0, .string ⟨#[]⟩]), 6, 56) := by kernel_rfl

end Go.Proofs.YtfpibbhcecdbgaaGreatDoor
