/-
  What is marked is held: the laws' own look at the marks of a chip.
-/
import Derived.Test.YtdeagcdafcfimaaGreatDoorProg
import Derived.KernelRfl
import Derived.Test.YtdeagcdafcfimaaGreatDoorNdMark
import Derived.BigQuiet
import Derived.Lib.QuietBelow
namespace Go.Proofs.YtdeagcdafcfimaaGreatDoor
open Go.RowKit

theorem heldText_eq (l : List UInt8) : ((bstr l).toList == (bstr l).toList) = true := by simp

end Go.Proofs.YtdeagcdafcfimaaGreatDoor
