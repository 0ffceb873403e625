/-
  The contracts of the floor, of the program and of the model.
-/
import Derived.Test.YtimlaeicbnnbdaaDoorChecked
import Derived.Test.YtimlaeicbnnbdaaDoorHsLast
namespace Go.Proofs.YtimlaeicbnnbdaaDoor
open Go.RowKit
open Bt (Rc)

end Go.Proofs.YtimlaeicbnnbdaaDoor
