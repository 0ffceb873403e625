/-
  What the laws' own comparisons answer: pages, blocks, chips compared field by field.
-/
import Derived.Test.YtdgmpllonnddmaaChecked
import Derived.Test.YtdgmpllonnddmaaNdMem
import Derived.StillTailTactics
import Derived.Deep.QuietTactic
import Derived.BigQuiet
import Derived.Lib.QuietBelow
namespace Go.Proofs.Ytdgmpllonnddmaa
open Go.RowKit

end Go.Proofs.Ytdgmpllonnddmaa
