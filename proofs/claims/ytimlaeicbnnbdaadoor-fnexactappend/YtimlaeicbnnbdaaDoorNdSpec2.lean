/-
  MarkBad, Erase and Program, of the document's model.
-/
import Derived.Test.YtimlaeicbnnbdaaDoorChecked
import Derived.Test.YtimlaeicbnnbdaaDoorNdSpec
import Derived.Test.YtimlaeicbnnbdaaDoorNdImp
import Derived.IntWalk
import Derived.StillTailTactics
namespace Go.Proofs.YtimlaeicbnnbdaaDoor
open Go.RowKit

theorem mk4 (W : World) : (Instr.makeSlice 71 (.int .i64 4) (.int .i64 4)).run Tryd.prog W = .ok (.slice (some ⟨W.heap.size, 0, none⟩) 4 4) (W.alloc (.cells (pcells zeroPg zeroPg zeroPg zeroPg).toArray 75)) := by
  kernel_rfl

end Go.Proofs.YtimlaeicbnnbdaaDoor
