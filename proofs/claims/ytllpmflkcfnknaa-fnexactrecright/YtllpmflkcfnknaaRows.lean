/-
  No cell of these rows narrows 'for every input' (looked for: loops, veiled, ifaces, maps, wideKeys, modest, calm, conditions, laid).
  DERIVED. THE GIVEN ROWS OF THIS SEAT. 14 by the template 'for every input the law returns true; each argument reads behind the call as it read before'; 0 by the template 'total and deterministic' (their statements: YtllpmflkcfnknaaTotals.lean).
  GIVEN WITH THE SEED: the statements are not yours to turn. If you find one false, say at which input.
  Laid BY PROGRAM, IN A SANDBOX (cutbox-rows.mjs): the forced cells as the released guide's own fill.sh prints them over the translation 876f0180312c1ba1… (all of the seat's roots in one cut). By AI agents, Wed Nov 11 2026. No macro, syntax, notation, axiom, sorry.
-/
import Derived.Test.YtllpmflkcfnknaaChecked
import GoSem.Claim
import GoSem.ClaimJoined
import GoSem.ClaimMapViews
import Derived.JoinedTies
import Derived.KernelRfl
namespace Go.Proofs.Ytllpmflkcfnknaa
/- THE CELL 'sum', in the pinned program and in every row, IS THE sha256 OF THE DUMP (.gsa) THAT YtllpmflkcfnknaaProg.lean LOADS. Nothing in Lean hashes anything: it is a label: what it is worth is what the hold of that sum in a sandbox is worth. -/
noncomputable def Try.pinned : Pinned := { name := "ytllpmflkcfnknaa", sum := "876f0180312c1ba1d6027cf7895f437d8189af203443c5b080c876e534e4db88", checked := Try.checked }
namespace Rows
def none {H : Type} : Left H := { results := [], args := [] }

/-- 'laws.FnHist': WHATEVER THE INPUT: true; the input reads as it did. -/
def fnHistSpec : ChangeSpec := { name := "fnHist", fn := fun _ => fun
  | [d1, d2] => { results := [.lit (.bool true)], args := [d1, d2] }
  | _ => none }
def fnHistRow : OpenClaim := { program := "ytllpmflkcfnknaa", sum := "876f0180312c1ba1d6027cf7895f437d8189af203443c5b080c876e534e4db88", func := "loop.example/g00637/laws.FnHist", spec := "fnHist", inPlace := ["slices.overlaps[int64]"], unfollowed := true, recurses := true, apart := false }
def FnHistSaid : Prop := fnHistRow.holds Try.pinned (OpenSpec.ofChange fnHistSpec)

/-- ITS FALSE NEIGHBOUR: 'it returns false'. Refute it at one input. -/
def fnHistWrong : ChangeSpec := { name := "fnHist", fn := fun _ => fun
  | [d1, d2] => { results := [.lit (.bool false)], args := [d1, d2] }
  | _ => none }
def FnHistWrongFalsely : Prop := fnHistRow.holds Try.pinned (OpenSpec.ofChange fnHistWrong)

/-- 'laws.FnPrune': WHATEVER THE INPUT: true; the input reads as it did. -/
def fnPruneSpec : ChangeSpec := { name := "fnPrune", fn := fun _ => fun
  | [d] => { results := [.lit (.bool true)], args := [d] }
  | _ => none }
def fnPruneRow : OpenClaim := { program := "ytllpmflkcfnknaa", sum := "876f0180312c1ba1d6027cf7895f437d8189af203443c5b080c876e534e4db88", func := "loop.example/g00637/laws.FnPrune", spec := "fnPrune", inPlace := ["slices.overlaps[int64]"], unfollowed := true, recurses := true, apart := false }
def FnPruneSaid : Prop := fnPruneRow.holds Try.pinned (OpenSpec.ofChange fnPruneSpec)

/-- ITS FALSE NEIGHBOUR: 'it returns false'. Refute it at one input. -/
def fnPruneWrong : ChangeSpec := { name := "fnPrune", fn := fun _ => fun
  | [d] => { results := [.lit (.bool false)], args := [d] }
  | _ => none }
def FnPruneWrongFalsely : Prop := fnPruneRow.holds Try.pinned (OpenSpec.ofChange fnPruneWrong)

/-- 'laws.FnExactHistRight': WHATEVER THE INPUT: true; the input reads as it did. -/
def fnExactHistRightSpec : ChangeSpec := { name := "fnExactHistRight", fn := fun _ => fun
  | [d] => { results := [.lit (.bool true)], args := [d] }
  | _ => none }
def fnExactHistRightRow : OpenClaim := { program := "ytllpmflkcfnknaa", sum := "876f0180312c1ba1d6027cf7895f437d8189af203443c5b080c876e534e4db88", func := "loop.example/g00637/laws.FnExactHistRight", spec := "fnExactHistRight", apart := false }
def FnExactHistRightSaid : Prop := fnExactHistRightRow.holds Try.pinned (OpenSpec.ofChange fnExactHistRightSpec)

/-- ITS FALSE NEIGHBOUR: 'it returns false'. Refute it at one input. -/
def fnExactHistRightWrong : ChangeSpec := { name := "fnExactHistRight", fn := fun _ => fun
  | [d] => { results := [.lit (.bool false)], args := [d] }
  | _ => none }
def FnExactHistRightWrongFalsely : Prop := fnExactHistRightRow.holds Try.pinned (OpenSpec.ofChange fnExactHistRightWrong)

/-- 'laws.FnExactHistAdd': WHATEVER THE INPUT: true; the input reads as it did. -/
def fnExactHistAddSpec : ChangeSpec := { name := "fnExactHistAdd", fn := fun _ => fun
  | [d1, d2] => { results := [.lit (.bool true)], args := [d1, d2] }
  | _ => none }
def fnExactHistAddRow : OpenClaim := { program := "ytllpmflkcfnknaa", sum := "876f0180312c1ba1d6027cf7895f437d8189af203443c5b080c876e534e4db88", func := "loop.example/g00637/laws.FnExactHistAdd", spec := "fnExactHistAdd", apart := false }
def FnExactHistAddSaid : Prop := fnExactHistAddRow.holds Try.pinned (OpenSpec.ofChange fnExactHistAddSpec)

/-- ITS FALSE NEIGHBOUR: 'it returns false'. Refute it at one input. -/
def fnExactHistAddWrong : ChangeSpec := { name := "fnExactHistAdd", fn := fun _ => fun
  | [d1, d2] => { results := [.lit (.bool false)], args := [d1, d2] }
  | _ => none }
def FnExactHistAddWrongFalsely : Prop := fnExactHistAddRow.holds Try.pinned (OpenSpec.ofChange fnExactHistAddWrong)

/-- 'laws.FnExactLastSeq': WHATEVER THE INPUT: true; the input reads as it did. -/
def fnExactLastSeqSpec : ChangeSpec := { name := "fnExactLastSeq", fn := fun _ => fun
  | [d] => { results := [.lit (.bool true)], args := [d] }
  | _ => none }
def fnExactLastSeqRow : OpenClaim := { program := "ytllpmflkcfnknaa", sum := "876f0180312c1ba1d6027cf7895f437d8189af203443c5b080c876e534e4db88", func := "loop.example/g00637/laws.FnExactLastSeq", spec := "fnExactLastSeq", apart := false }
def FnExactLastSeqSaid : Prop := fnExactLastSeqRow.holds Try.pinned (OpenSpec.ofChange fnExactLastSeqSpec)

/-- ITS FALSE NEIGHBOUR: 'it returns false'. Refute it at one input. -/
def fnExactLastSeqWrong : ChangeSpec := { name := "fnExactLastSeq", fn := fun _ => fun
  | [d] => { results := [.lit (.bool false)], args := [d] }
  | _ => none }
def FnExactLastSeqWrongFalsely : Prop := fnExactLastSeqRow.holds Try.pinned (OpenSpec.ofChange fnExactLastSeqWrong)

/-- 'laws.FnExactLastTime': WHATEVER THE INPUT: true; the input reads as it did. -/
def fnExactLastTimeSpec : ChangeSpec := { name := "fnExactLastTime", fn := fun _ => fun
  | [d] => { results := [.lit (.bool true)], args := [d] }
  | _ => none }
def fnExactLastTimeRow : OpenClaim := { program := "ytllpmflkcfnknaa", sum := "876f0180312c1ba1d6027cf7895f437d8189af203443c5b080c876e534e4db88", func := "loop.example/g00637/laws.FnExactLastTime", spec := "fnExactLastTime", apart := false }
def FnExactLastTimeSaid : Prop := fnExactLastTimeRow.holds Try.pinned (OpenSpec.ofChange fnExactLastTimeSpec)

/-- ITS FALSE NEIGHBOUR: 'it returns false'. Refute it at one input. -/
def fnExactLastTimeWrong : ChangeSpec := { name := "fnExactLastTime", fn := fun _ => fun
  | [d] => { results := [.lit (.bool false)], args := [d] }
  | _ => none }
def FnExactLastTimeWrongFalsely : Prop := fnExactLastTimeRow.holds Try.pinned (OpenSpec.ofChange fnExactLastTimeWrong)

/-- 'laws.FnExactFloorOf': WHATEVER THE INPUT: true; the input reads as it did. -/
def fnExactFloorOfSpec : ChangeSpec := { name := "fnExactFloorOf", fn := fun _ => fun
  | [d] => { results := [.lit (.bool true)], args := [d] }
  | _ => none }
def fnExactFloorOfRow : OpenClaim := { program := "ytllpmflkcfnknaa", sum := "876f0180312c1ba1d6027cf7895f437d8189af203443c5b080c876e534e4db88", func := "loop.example/g00637/laws.FnExactFloorOf", spec := "fnExactFloorOf", apart := false }
def FnExactFloorOfSaid : Prop := fnExactFloorOfRow.holds Try.pinned (OpenSpec.ofChange fnExactFloorOfSpec)

/-- ITS FALSE NEIGHBOUR: 'it returns false'. Refute it at one input. -/
def fnExactFloorOfWrong : ChangeSpec := { name := "fnExactFloorOf", fn := fun _ => fun
  | [d] => { results := [.lit (.bool false)], args := [d] }
  | _ => none }
def FnExactFloorOfWrongFalsely : Prop := fnExactFloorOfRow.holds Try.pinned (OpenSpec.ofChange fnExactFloorOfWrong)

/-- 'laws.FnExactTrail': WHATEVER THE INPUT: true; the input reads as it did. -/
def fnExactTrailSpec : ChangeSpec := { name := "fnExactTrail", fn := fun _ => fun
  | [d1, d2, d3] => { results := [.lit (.bool true)], args := [d1, d2, d3] }
  | _ => none }
def fnExactTrailRow : OpenClaim := { program := "ytllpmflkcfnknaa", sum := "876f0180312c1ba1d6027cf7895f437d8189af203443c5b080c876e534e4db88", func := "loop.example/g00637/laws.FnExactTrail", spec := "fnExactTrail", unfollowed := true, recurses := true, apart := false }
def FnExactTrailSaid : Prop := fnExactTrailRow.holds Try.pinned (OpenSpec.ofChange fnExactTrailSpec)

/-- ITS FALSE NEIGHBOUR: 'it returns false'. Refute it at one input. -/
def fnExactTrailWrong : ChangeSpec := { name := "fnExactTrail", fn := fun _ => fun
  | [d1, d2, d3] => { results := [.lit (.bool false)], args := [d1, d2, d3] }
  | _ => none }
def FnExactTrailWrongFalsely : Prop := fnExactTrailRow.holds Try.pinned (OpenSpec.ofChange fnExactTrailWrong)

/-- 'laws.FnExactAsOf': WHATEVER THE INPUT: true; the input reads as it did. -/
def fnExactAsOfSpec : ChangeSpec := { name := "fnExactAsOf", fn := fun _ => fun
  | [d1, d2, d3] => { results := [.lit (.bool true)], args := [d1, d2, d3] }
  | _ => none }
def fnExactAsOfRow : OpenClaim := { program := "ytllpmflkcfnknaa", sum := "876f0180312c1ba1d6027cf7895f437d8189af203443c5b080c876e534e4db88", func := "loop.example/g00637/laws.FnExactAsOf", spec := "fnExactAsOf", unfollowed := true, recurses := true, apart := false }
def FnExactAsOfSaid : Prop := fnExactAsOfRow.holds Try.pinned (OpenSpec.ofChange fnExactAsOfSpec)

/-- ITS FALSE NEIGHBOUR: 'it returns false'. Refute it at one input. -/
def fnExactAsOfWrong : ChangeSpec := { name := "fnExactAsOf", fn := fun _ => fun
  | [d1, d2, d3] => { results := [.lit (.bool false)], args := [d1, d2, d3] }
  | _ => none }
def FnExactAsOfWrongFalsely : Prop := fnExactAsOfRow.holds Try.pinned (OpenSpec.ofChange fnExactAsOfWrong)

/-- 'laws.FnExactTimes': WHATEVER THE INPUT: true; the input reads as it did. -/
def fnExactTimesSpec : ChangeSpec := { name := "fnExactTimes", fn := fun _ => fun
  | [d1, d2] => { results := [.lit (.bool true)], args := [d1, d2] }
  | _ => none }
def fnExactTimesRow : OpenClaim := { program := "ytllpmflkcfnknaa", sum := "876f0180312c1ba1d6027cf7895f437d8189af203443c5b080c876e534e4db88", func := "loop.example/g00637/laws.FnExactTimes", spec := "fnExactTimes", inPlace := ["slices.overlaps[int64]"], apart := false }
def FnExactTimesSaid : Prop := fnExactTimesRow.holds Try.pinned (OpenSpec.ofChange fnExactTimesSpec)

/-- ITS FALSE NEIGHBOUR: 'it returns false'. Refute it at one input. -/
def fnExactTimesWrong : ChangeSpec := { name := "fnExactTimes", fn := fun _ => fun
  | [d1, d2] => { results := [.lit (.bool false)], args := [d1, d2] }
  | _ => none }
def FnExactTimesWrongFalsely : Prop := fnExactTimesRow.holds Try.pinned (OpenSpec.ofChange fnExactTimesWrong)

/-- 'laws.FnExactNeeded': WHATEVER THE INPUT: true; the input reads as it did. -/
def fnExactNeededSpec : ChangeSpec := { name := "fnExactNeeded", fn := fun _ => fun
  | [d] => { results := [.lit (.bool true)], args := [d] }
  | _ => none }
def fnExactNeededRow : OpenClaim := { program := "ytllpmflkcfnknaa", sum := "876f0180312c1ba1d6027cf7895f437d8189af203443c5b080c876e534e4db88", func := "loop.example/g00637/laws.FnExactNeeded", spec := "fnExactNeeded", inPlace := ["slices.overlaps[int64]"], unfollowed := true, recurses := true, apart := false }
def FnExactNeededSaid : Prop := fnExactNeededRow.holds Try.pinned (OpenSpec.ofChange fnExactNeededSpec)

/-- ITS FALSE NEIGHBOUR: 'it returns false'. Refute it at one input. -/
def fnExactNeededWrong : ChangeSpec := { name := "fnExactNeeded", fn := fun _ => fun
  | [d] => { results := [.lit (.bool false)], args := [d] }
  | _ => none }
def FnExactNeededWrongFalsely : Prop := fnExactNeededRow.holds Try.pinned (OpenSpec.ofChange fnExactNeededWrong)

/-- 'laws.FnExactPrune': WHATEVER THE INPUT: true; the input reads as it did. -/
def fnExactPruneSpec : ChangeSpec := { name := "fnExactPrune", fn := fun _ => fun
  | [d] => { results := [.lit (.bool true)], args := [d] }
  | _ => none }
def fnExactPruneRow : OpenClaim := { program := "ytllpmflkcfnknaa", sum := "876f0180312c1ba1d6027cf7895f437d8189af203443c5b080c876e534e4db88", func := "loop.example/g00637/laws.FnExactPrune", spec := "fnExactPrune", inPlace := ["slices.overlaps[int64]"], unfollowed := true, recurses := true, apart := false }
def FnExactPruneSaid : Prop := fnExactPruneRow.holds Try.pinned (OpenSpec.ofChange fnExactPruneSpec)

/-- ITS FALSE NEIGHBOUR: 'it returns false'. Refute it at one input. -/
def fnExactPruneWrong : ChangeSpec := { name := "fnExactPrune", fn := fun _ => fun
  | [d] => { results := [.lit (.bool false)], args := [d] }
  | _ => none }
def FnExactPruneWrongFalsely : Prop := fnExactPruneRow.holds Try.pinned (OpenSpec.ofChange fnExactPruneWrong)

/-- 'laws.FnExactRecRight': WHATEVER THE INPUT: true; the input reads as it did. -/
def fnExactRecRightSpec : ChangeSpec := { name := "fnExactRecRight", fn := fun _ => fun
  | [d] => { results := [.lit (.bool true)], args := [d] }
  | _ => none }
def fnExactRecRightRow : OpenClaim := { program := "ytllpmflkcfnknaa", sum := "876f0180312c1ba1d6027cf7895f437d8189af203443c5b080c876e534e4db88", func := "loop.example/g00637/laws.FnExactRecRight", spec := "fnExactRecRight", apart := false }
def FnExactRecRightSaid : Prop := fnExactRecRightRow.holds Try.pinned (OpenSpec.ofChange fnExactRecRightSpec)

/-- ITS FALSE NEIGHBOUR: 'it returns false'. Refute it at one input. -/
def fnExactRecRightWrong : ChangeSpec := { name := "fnExactRecRight", fn := fun _ => fun
  | [d] => { results := [.lit (.bool false)], args := [d] }
  | _ => none }
def FnExactRecRightWrongFalsely : Prop := fnExactRecRightRow.holds Try.pinned (OpenSpec.ofChange fnExactRecRightWrong)

/-- 'laws.FnExactRecBytes': WHATEVER THE INPUT: true; the input reads as it did. -/
def fnExactRecBytesSpec : ChangeSpec := { name := "fnExactRecBytes", fn := fun _ => fun
  | [d] => { results := [.lit (.bool true)], args := [d] }
  | _ => none }
def fnExactRecBytesRow : OpenClaim := { program := "ytllpmflkcfnknaa", sum := "876f0180312c1ba1d6027cf7895f437d8189af203443c5b080c876e534e4db88", func := "loop.example/g00637/laws.FnExactRecBytes", spec := "fnExactRecBytes", apart := false }
def FnExactRecBytesSaid : Prop := fnExactRecBytesRow.holds Try.pinned (OpenSpec.ofChange fnExactRecBytesSpec)

/-- ITS FALSE NEIGHBOUR: 'it returns false'. Refute it at one input. -/
def fnExactRecBytesWrong : ChangeSpec := { name := "fnExactRecBytes", fn := fun _ => fun
  | [d] => { results := [.lit (.bool false)], args := [d] }
  | _ => none }
def FnExactRecBytesWrongFalsely : Prop := fnExactRecBytesRow.holds Try.pinned (OpenSpec.ofChange fnExactRecBytesWrong)

/- THE SECOND FORM. 'bulk': how many values and letters a reading holds, each counted each time it is reached (what is shared counts as often as it is met; a slice's spare places count too). A statement '..UptoSaid' is the law's where the arguments, and the package variables that the reading takes, are together of bulk at most 1048576: NARROWER than '..Said'. Prove '..Said' where nothing that the law and all that it calls make is longer than what came in: it says more and counts as full. Else prove '..UptoSaid'. A law counts once. -/
mutual
def uptoBulk {H : Type} : DataW H → Nat
  | .lit (.string bytes) => bytes.length + 1
  | .lit _ => 1
  | .nil => 1
  | .ptr d => uptoBulk d + 1
  | .slice elems spare => uptoBulkAll elems + uptoBulkAll spare + 1
  | .agg parts => uptoBulkAll parts + 1
  | .iface _ d => uptoBulk d + 1
  | .map entries => uptoBulkEntries entries + 1
  | .held _ => 1
def uptoBulkAll {H : Type} : List (DataW H) → Nat
  | [] => 0
  | d :: r => uptoBulk d + uptoBulkAll r
def uptoBulkEntries {H : Type} : List (Lit × DataW H) → Nat
  | [] => 0
  | x :: r => uptoBulkEntry x + uptoBulkEntries r
def uptoBulkEntry {H : Type} : Lit × DataW H → Nat
  | (.string bytes, d) => bytes.length + uptoBulk d + 1
  | (_, d) => uptoBulk d + 1
 end
def uptoSmall : (H : Type) → List (DataW H) → Bool := fun _ ds => decide (uptoBulkAll ds ≤ 1048576)
def OpenSpec.upto (s : _root_.Go.ChangeSpec) : _root_.Go.OpenSpec := { _root_.Go.OpenSpec.ofChange s with cond := some uptoSmall }

/-- 'laws.FnHist', WHERE WHAT IT READS IS OF BULK AT MOST 1048576: true; the input reads as it did. -/
def fnHistUptoRow : OpenClaim := { program := "ytllpmflkcfnknaa", sum := "876f0180312c1ba1d6027cf7895f437d8189af203443c5b080c876e534e4db88", func := "loop.example/g00637/laws.FnHist", spec := "fnHist", inPlace := ["slices.overlaps[int64]"], unfollowed := true, recurses := true, apart := false, narrowed := true }
def FnHistUptoSaid : Prop := fnHistUptoRow.holds Try.pinned (OpenSpec.upto fnHistSpec)

/-- 'laws.FnPrune', WHERE WHAT IT READS IS OF BULK AT MOST 1048576: true; the input reads as it did. -/
def fnPruneUptoRow : OpenClaim := { program := "ytllpmflkcfnknaa", sum := "876f0180312c1ba1d6027cf7895f437d8189af203443c5b080c876e534e4db88", func := "loop.example/g00637/laws.FnPrune", spec := "fnPrune", inPlace := ["slices.overlaps[int64]"], unfollowed := true, recurses := true, apart := false, narrowed := true }
def FnPruneUptoSaid : Prop := fnPruneUptoRow.holds Try.pinned (OpenSpec.upto fnPruneSpec)

/-- 'laws.FnExactHistRight', WHERE WHAT IT READS IS OF BULK AT MOST 1048576: true; the input reads as it did. -/
def fnExactHistRightUptoRow : OpenClaim := { program := "ytllpmflkcfnknaa", sum := "876f0180312c1ba1d6027cf7895f437d8189af203443c5b080c876e534e4db88", func := "loop.example/g00637/laws.FnExactHistRight", spec := "fnExactHistRight", apart := false, narrowed := true }
def FnExactHistRightUptoSaid : Prop := fnExactHistRightUptoRow.holds Try.pinned (OpenSpec.upto fnExactHistRightSpec)

/-- 'laws.FnExactHistAdd', WHERE WHAT IT READS IS OF BULK AT MOST 1048576: true; the input reads as it did. -/
def fnExactHistAddUptoRow : OpenClaim := { program := "ytllpmflkcfnknaa", sum := "876f0180312c1ba1d6027cf7895f437d8189af203443c5b080c876e534e4db88", func := "loop.example/g00637/laws.FnExactHistAdd", spec := "fnExactHistAdd", apart := false, narrowed := true }
def FnExactHistAddUptoSaid : Prop := fnExactHistAddUptoRow.holds Try.pinned (OpenSpec.upto fnExactHistAddSpec)

/-- 'laws.FnExactLastSeq', WHERE WHAT IT READS IS OF BULK AT MOST 1048576: true; the input reads as it did. -/
def fnExactLastSeqUptoRow : OpenClaim := { program := "ytllpmflkcfnknaa", sum := "876f0180312c1ba1d6027cf7895f437d8189af203443c5b080c876e534e4db88", func := "loop.example/g00637/laws.FnExactLastSeq", spec := "fnExactLastSeq", apart := false, narrowed := true }
def FnExactLastSeqUptoSaid : Prop := fnExactLastSeqUptoRow.holds Try.pinned (OpenSpec.upto fnExactLastSeqSpec)

/-- 'laws.FnExactLastTime', WHERE WHAT IT READS IS OF BULK AT MOST 1048576: true; the input reads as it did. -/
def fnExactLastTimeUptoRow : OpenClaim := { program := "ytllpmflkcfnknaa", sum := "876f0180312c1ba1d6027cf7895f437d8189af203443c5b080c876e534e4db88", func := "loop.example/g00637/laws.FnExactLastTime", spec := "fnExactLastTime", apart := false, narrowed := true }
def FnExactLastTimeUptoSaid : Prop := fnExactLastTimeUptoRow.holds Try.pinned (OpenSpec.upto fnExactLastTimeSpec)

/-- 'laws.FnExactFloorOf', WHERE WHAT IT READS IS OF BULK AT MOST 1048576: true; the input reads as it did. -/
def fnExactFloorOfUptoRow : OpenClaim := { program := "ytllpmflkcfnknaa", sum := "876f0180312c1ba1d6027cf7895f437d8189af203443c5b080c876e534e4db88", func := "loop.example/g00637/laws.FnExactFloorOf", spec := "fnExactFloorOf", apart := false, narrowed := true }
def FnExactFloorOfUptoSaid : Prop := fnExactFloorOfUptoRow.holds Try.pinned (OpenSpec.upto fnExactFloorOfSpec)

/-- 'laws.FnExactTrail', WHERE WHAT IT READS IS OF BULK AT MOST 1048576: true; the input reads as it did. -/
def fnExactTrailUptoRow : OpenClaim := { program := "ytllpmflkcfnknaa", sum := "876f0180312c1ba1d6027cf7895f437d8189af203443c5b080c876e534e4db88", func := "loop.example/g00637/laws.FnExactTrail", spec := "fnExactTrail", unfollowed := true, recurses := true, apart := false, narrowed := true }
def FnExactTrailUptoSaid : Prop := fnExactTrailUptoRow.holds Try.pinned (OpenSpec.upto fnExactTrailSpec)

/-- 'laws.FnExactAsOf', WHERE WHAT IT READS IS OF BULK AT MOST 1048576: true; the input reads as it did. -/
def fnExactAsOfUptoRow : OpenClaim := { program := "ytllpmflkcfnknaa", sum := "876f0180312c1ba1d6027cf7895f437d8189af203443c5b080c876e534e4db88", func := "loop.example/g00637/laws.FnExactAsOf", spec := "fnExactAsOf", unfollowed := true, recurses := true, apart := false, narrowed := true }
def FnExactAsOfUptoSaid : Prop := fnExactAsOfUptoRow.holds Try.pinned (OpenSpec.upto fnExactAsOfSpec)

/-- 'laws.FnExactTimes', WHERE WHAT IT READS IS OF BULK AT MOST 1048576: true; the input reads as it did. -/
def fnExactTimesUptoRow : OpenClaim := { program := "ytllpmflkcfnknaa", sum := "876f0180312c1ba1d6027cf7895f437d8189af203443c5b080c876e534e4db88", func := "loop.example/g00637/laws.FnExactTimes", spec := "fnExactTimes", inPlace := ["slices.overlaps[int64]"], apart := false, narrowed := true }
def FnExactTimesUptoSaid : Prop := fnExactTimesUptoRow.holds Try.pinned (OpenSpec.upto fnExactTimesSpec)

/-- 'laws.FnExactNeeded', WHERE WHAT IT READS IS OF BULK AT MOST 1048576: true; the input reads as it did. -/
def fnExactNeededUptoRow : OpenClaim := { program := "ytllpmflkcfnknaa", sum := "876f0180312c1ba1d6027cf7895f437d8189af203443c5b080c876e534e4db88", func := "loop.example/g00637/laws.FnExactNeeded", spec := "fnExactNeeded", inPlace := ["slices.overlaps[int64]"], unfollowed := true, recurses := true, apart := false, narrowed := true }
def FnExactNeededUptoSaid : Prop := fnExactNeededUptoRow.holds Try.pinned (OpenSpec.upto fnExactNeededSpec)

/-- 'laws.FnExactPrune', WHERE WHAT IT READS IS OF BULK AT MOST 1048576: true; the input reads as it did. -/
def fnExactPruneUptoRow : OpenClaim := { program := "ytllpmflkcfnknaa", sum := "876f0180312c1ba1d6027cf7895f437d8189af203443c5b080c876e534e4db88", func := "loop.example/g00637/laws.FnExactPrune", spec := "fnExactPrune", inPlace := ["slices.overlaps[int64]"], unfollowed := true, recurses := true, apart := false, narrowed := true }
def FnExactPruneUptoSaid : Prop := fnExactPruneUptoRow.holds Try.pinned (OpenSpec.upto fnExactPruneSpec)

/-- 'laws.FnExactRecRight', WHERE WHAT IT READS IS OF BULK AT MOST 1048576: true; the input reads as it did. -/
def fnExactRecRightUptoRow : OpenClaim := { program := "ytllpmflkcfnknaa", sum := "876f0180312c1ba1d6027cf7895f437d8189af203443c5b080c876e534e4db88", func := "loop.example/g00637/laws.FnExactRecRight", spec := "fnExactRecRight", apart := false, narrowed := true }
def FnExactRecRightUptoSaid : Prop := fnExactRecRightUptoRow.holds Try.pinned (OpenSpec.upto fnExactRecRightSpec)

/-- 'laws.FnExactRecBytes', WHERE WHAT IT READS IS OF BULK AT MOST 1048576: true; the input reads as it did. -/
def fnExactRecBytesUptoRow : OpenClaim := { program := "ytllpmflkcfnknaa", sum := "876f0180312c1ba1d6027cf7895f437d8189af203443c5b080c876e534e4db88", func := "loop.example/g00637/laws.FnExactRecBytes", spec := "fnExactRecBytes", apart := false, narrowed := true }
def FnExactRecBytesUptoSaid : Prop := fnExactRecBytesUptoRow.holds Try.pinned (OpenSpec.upto fnExactRecBytesSpec)

end Rows
end Go.Proofs.Ytllpmflkcfnknaa
