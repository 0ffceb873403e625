/-
  The contracts of HistRight, of the program and of the model.
-/
import Derived.Test.YtimlaeicbnnbdaaDoorChecked
import Derived.Test.YtimlaeicbnnbdaaDoorHsMem
import Derived.Test.YtimlaeicbnnbdaaDoorHsPure
import Derived.StillTailTactics
import Derived.Deep.QuietTactic
import Derived.BigQuiet
import Derived.Lib.QuietBelow
namespace Go.Proofs.YtimlaeicbnnbdaaDoor
open Go.RowKit
open Bt (Rc)

end Go.Proofs.YtimlaeicbnnbdaaDoor
