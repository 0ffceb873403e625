/-
  The contracts of the floor, of the program and of the model.
-/
import Derived.Test.YtginfgepamidkaaDoorProg
import Derived.KernelRfl
import Derived.Test.YtginfgepamidkaaDoorHsLast
namespace Go.Proofs.YtginfgepamidkaaDoor
open Go.RowKit
open Bt (Rc)

end Go.Proofs.YtginfgepamidkaaDoor
