/-
  The contracts of the floor, of the program and of the model.
-/
import Derived.Test.YtmpadpaeejefnaaDoorProg
import Derived.KernelRfl
import Derived.Test.YtmpadpaeejefnaaDoorHsLast
namespace Go.Proofs.YtmpadpaeejefnaaDoor
open Go.RowKit
open Bt (Rc)

end Go.Proofs.YtmpadpaeejefnaaDoor
