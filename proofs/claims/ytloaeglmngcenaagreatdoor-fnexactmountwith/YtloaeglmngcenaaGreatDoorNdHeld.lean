/-
  What is marked is held: the laws' own look at the marks of a chip.
-/
import Derived.Test.YtloaeglmngcenaaGreatDoorProg
import Derived.KernelRfl
import Derived.Test.YtloaeglmngcenaaGreatDoorNdMark
import Derived.BigQuiet
import Derived.Lib.QuietBelow
namespace Go.Proofs.YtloaeglmngcenaaGreatDoor
open Go.RowKit

theorem heldText_eq (l : List UInt8) : ((bstr l).toList == (bstr l).toList) = true := by simp

end Go.Proofs.YtloaeglmngcenaaGreatDoor
