/-
  NARROWER THAN 'FOR EVERY INPUT', by the rows' own cells (each row's printed sentence says how): FnExactDriveRight: ifaces, laid · FnExactFormat: ifaces, laid · FnExactTick: ifaces, laid · FnExactWrite: ifaces, laid · FnExactTrim: ifaces, laid · FnExactRead: ifaces, laid · FnExactReadAt: ifaces, laid · FnExactRollTo: ifaces, laid · FnExactRaise: ifaces, laid · FnExactCollect: ifaces, laid · FnExactRestart: ifaces, laid · FnExactWear: ifaces, laid.
  DERIVED. THE GIVEN ROWS OF THIS SEAT. 12 by the template 'for every input the law returns true; each argument reads behind the call as it read before'; 0 by the template 'total and deterministic' (their statements: YtohmkjgmhippoaaGreatDoorTotals.lean).
  GIVEN WITH THE SEED: the statements are not yours to turn. If you find one false, say at which input.
  Laid BY PROGRAM, IN A SANDBOX (cutbox-rows.mjs): the forced cells as the released guide's own fill.sh prints them over the translation 8fb4989e3befc0b7… (all of the seat's roots in one cut). By AI agents, Wed Nov 11 2026. No macro, syntax, notation, axiom, sorry.
-/
import Derived.Test.YtohmkjgmhippoaaGreatDoorChecked
import GoSem.Claim
import GoSem.ClaimJoined
import GoSem.ClaimMapViews
import Derived.JoinedTies
import Derived.KernelRfl
namespace Go.Proofs.YtohmkjgmhippoaaGreatDoor
/- THE CELL 'sum', in the pinned program and in every row, IS THE sha256 OF THE DUMP (.gsa) THAT YtohmkjgmhippoaaGreatDoorProg.lean LOADS. Nothing in Lean hashes anything: it is a label: what it is worth is what the hold of that sum in a sandbox is worth. -/
noncomputable def Tryz.pinned : Pinned := { name := "ytohmkjgmhippoaagreatdoor", sum := "8fb4989e3befc0b7a1ff1d78a6bafda5a7350e34d43091a2c10f793feae0b0f2", checked := Tryz.checked }
namespace Rows
def none {H : Type} : Left H := { results := [], args := [] }

/- WHAT THE LISTED PACKAGE-LEVEL VARIABLES READ AS WHEN THE CALL BEGINS. Each datum BY PROGRAM (the guide's laid-datum.mjs) off the statement by which the dump's own 'gosem.cut.vars' lays the variable. In a bare row this is a premise. The card (YtohmkjgmhippoaaGreatDoorCards.lean) ties it to the program's text. -/
def laid_errors_errorType {H : Type} : DataW H := .iface "internal/reflectlite.rtype" (.agg [.ptr (.lit (.string [101, 114, 114, 111, 114]))])
def laid_loop_example_g00637_impl_errInvalid {H : Type} : DataW H := .iface "*errors.errorString" (.ptr (.agg [.lit (.string [97, 110, 32, 97, 114, 103, 117, 109, 101, 110, 116, 32, 105, 115, 32, 105, 110, 118, 97, 108, 105, 100])]))
def laid_loop_example_g00637_impl_errNoHistory {H : Type} : DataW H := .iface "*errors.errorString" (.ptr (.agg [.lit (.string [116, 104, 101, 32, 114, 101, 99, 111, 114, 100, 115, 32, 97, 114, 101, 32, 110, 111, 32, 118, 97, 108, 105, 100, 32, 104, 105, 115, 116, 111, 114, 121])]))
def laid_loop_example_g00637_impl_errNoRoom {H : Type} : DataW H := .iface "*errors.errorString" (.ptr (.agg [.lit (.string [116, 104, 101, 114, 101, 32, 105, 115, 32, 110, 111, 32, 98, 108, 111, 99, 107, 32, 102, 111, 114, 32, 116, 104, 101, 32, 110, 101, 120, 116, 32, 112, 97, 103, 101])]))

/-- 'laws.FnExactDriveRight': WHATEVER THE INPUT: true; the input reads as it did. -/
def fnExactDriveRightSpec : ChangeSpec := { name := "fnExactDriveRight", vars := ["loop.example/g00637/impl.errInvalid", "loop.example/g00637/impl.errNoHistory"], fn := fun _ => fun
  | [d, g1, g2] => { results := [.lit (.bool true)], args := [d], vars := [g1, g2] }
  | _ => none }
def fnExactDriveRightRow : OpenClaim := { program := "ytohmkjgmhippoaagreatdoor", sum := "8fb4989e3befc0b7a1ff1d78a6bafda5a7350e34d43091a2c10f793feae0b0f2", func := "loop.example/g00637/laws.FnExactDriveRight", spec := "fnExactDriveRight", inPlace := ["internal/reflectlite.ValueOf", "(internal/reflectlite.Value).Type", "(internal/reflectlite.Value).IsNil", "internal/reflectlite.TypeOf", "(internal/reflectlite.Value).Elem", "(internal/reflectlite.Value).Set"], unfollowed := true, recurses := true, named := ["loop.example/g00637/impl.errInvalid", "loop.example/g00637/impl.errNoHistory", "errors.errorType"], ifaces := true, apart := false, laid := [("errors.errorType", laid_errors_errorType), ("loop.example/g00637/impl.errInvalid", laid_loop_example_g00637_impl_errInvalid), ("loop.example/g00637/impl.errNoHistory", laid_loop_example_g00637_impl_errNoHistory)] }
def FnExactDriveRightSaid : Prop := fnExactDriveRightRow.holds Tryz.pinned (OpenSpec.ofChange fnExactDriveRightSpec)

/-- ITS FALSE NEIGHBOUR: 'it returns false'. Refute it at one input. -/
def fnExactDriveRightWrong : ChangeSpec := { name := "fnExactDriveRight", vars := ["loop.example/g00637/impl.errInvalid", "loop.example/g00637/impl.errNoHistory"], fn := fun _ => fun
  | [d, g1, g2] => { results := [.lit (.bool false)], args := [d], vars := [g1, g2] }
  | _ => none }
def FnExactDriveRightWrongFalsely : Prop := fnExactDriveRightRow.holds Tryz.pinned (OpenSpec.ofChange fnExactDriveRightWrong)

/-- 'laws.FnExactFormat': WHATEVER THE INPUT: true; the input reads as it did. -/
def fnExactFormatSpec : ChangeSpec := { name := "fnExactFormat", vars := ["loop.example/g00637/impl.errInvalid", "loop.example/g00637/impl.errNoHistory"], fn := fun _ => fun
  | [d1, d2, g1, g2] => { results := [.lit (.bool true)], args := [d1, d2], vars := [g1, g2] }
  | _ => none }
def fnExactFormatRow : OpenClaim := { program := "ytohmkjgmhippoaagreatdoor", sum := "8fb4989e3befc0b7a1ff1d78a6bafda5a7350e34d43091a2c10f793feae0b0f2", func := "loop.example/g00637/laws.FnExactFormat", spec := "fnExactFormat", inPlace := ["internal/reflectlite.ValueOf", "(internal/reflectlite.Value).Type", "(internal/reflectlite.Value).IsNil", "internal/reflectlite.TypeOf", "(internal/reflectlite.Value).Elem", "(internal/reflectlite.Value).Set"], unfollowed := true, recurses := true, named := ["loop.example/g00637/impl.errInvalid", "loop.example/g00637/impl.errNoHistory", "errors.errorType"], ifaces := true, apart := false, laid := [("errors.errorType", laid_errors_errorType), ("loop.example/g00637/impl.errInvalid", laid_loop_example_g00637_impl_errInvalid), ("loop.example/g00637/impl.errNoHistory", laid_loop_example_g00637_impl_errNoHistory)] }
def FnExactFormatSaid : Prop := fnExactFormatRow.holds Tryz.pinned (OpenSpec.ofChange fnExactFormatSpec)

/-- ITS FALSE NEIGHBOUR: 'it returns false'. Refute it at one input. -/
def fnExactFormatWrong : ChangeSpec := { name := "fnExactFormat", vars := ["loop.example/g00637/impl.errInvalid", "loop.example/g00637/impl.errNoHistory"], fn := fun _ => fun
  | [d1, d2, g1, g2] => { results := [.lit (.bool false)], args := [d1, d2], vars := [g1, g2] }
  | _ => none }
def FnExactFormatWrongFalsely : Prop := fnExactFormatRow.holds Tryz.pinned (OpenSpec.ofChange fnExactFormatWrong)

/-- 'laws.FnExactTick': WHATEVER THE INPUT: true; the input reads as it did. -/
def fnExactTickSpec : ChangeSpec := { name := "fnExactTick", vars := ["loop.example/g00637/impl.errInvalid", "loop.example/g00637/impl.errNoHistory", "loop.example/g00637/impl.errNoRoom"], fn := fun _ => fun
  | [d1, d2, g1, g2, g3] => { results := [.lit (.bool true)], args := [d1, d2], vars := [g1, g2, g3] }
  | _ => none }
def fnExactTickRow : OpenClaim := { program := "ytohmkjgmhippoaagreatdoor", sum := "8fb4989e3befc0b7a1ff1d78a6bafda5a7350e34d43091a2c10f793feae0b0f2", func := "loop.example/g00637/laws.FnExactTick", spec := "fnExactTick", inPlace := ["internal/reflectlite.ValueOf", "(internal/reflectlite.Value).Type", "(internal/reflectlite.Value).IsNil", "internal/reflectlite.TypeOf", "(internal/reflectlite.Value).Elem", "(internal/reflectlite.Value).Set", "slices.overlaps[int64]"], unfollowed := true, recurses := true, named := ["loop.example/g00637/impl.errInvalid", "loop.example/g00637/impl.errNoHistory", "errors.errorType", "loop.example/g00637/impl.errNoRoom"], ifaces := true, apart := false, laid := [("errors.errorType", laid_errors_errorType), ("loop.example/g00637/impl.errInvalid", laid_loop_example_g00637_impl_errInvalid), ("loop.example/g00637/impl.errNoRoom", laid_loop_example_g00637_impl_errNoRoom), ("loop.example/g00637/impl.errNoHistory", laid_loop_example_g00637_impl_errNoHistory)] }
def FnExactTickSaid : Prop := fnExactTickRow.holds Tryz.pinned (OpenSpec.ofChange fnExactTickSpec)

/-- ITS FALSE NEIGHBOUR: 'it returns false'. Refute it at one input. -/
def fnExactTickWrong : ChangeSpec := { name := "fnExactTick", vars := ["loop.example/g00637/impl.errInvalid", "loop.example/g00637/impl.errNoHistory", "loop.example/g00637/impl.errNoRoom"], fn := fun _ => fun
  | [d1, d2, g1, g2, g3] => { results := [.lit (.bool false)], args := [d1, d2], vars := [g1, g2, g3] }
  | _ => none }
def FnExactTickWrongFalsely : Prop := fnExactTickRow.holds Tryz.pinned (OpenSpec.ofChange fnExactTickWrong)

/-- 'laws.FnExactWrite': WHATEVER THE INPUT: true; the input reads as it did. -/
def fnExactWriteSpec : ChangeSpec := { name := "fnExactWrite", vars := ["loop.example/g00637/impl.errInvalid", "loop.example/g00637/impl.errNoHistory", "loop.example/g00637/impl.errNoRoom"], fn := fun _ => fun
  | [d1, d2, d3, g1, g2, g3] => { results := [.lit (.bool true)], args := [d1, d2, d3], vars := [g1, g2, g3] }
  | _ => none }
def fnExactWriteRow : OpenClaim := { program := "ytohmkjgmhippoaagreatdoor", sum := "8fb4989e3befc0b7a1ff1d78a6bafda5a7350e34d43091a2c10f793feae0b0f2", func := "loop.example/g00637/laws.FnExactWrite", spec := "fnExactWrite", inPlace := ["internal/reflectlite.ValueOf", "(internal/reflectlite.Value).Type", "(internal/reflectlite.Value).IsNil", "internal/reflectlite.TypeOf", "(internal/reflectlite.Value).Elem", "(internal/reflectlite.Value).Set", "slices.overlaps[int64]"], unfollowed := true, recurses := true, named := ["loop.example/g00637/impl.errInvalid", "loop.example/g00637/impl.errNoHistory", "errors.errorType", "loop.example/g00637/impl.errNoRoom"], ifaces := true, apart := false, laid := [("errors.errorType", laid_errors_errorType), ("loop.example/g00637/impl.errInvalid", laid_loop_example_g00637_impl_errInvalid), ("loop.example/g00637/impl.errNoRoom", laid_loop_example_g00637_impl_errNoRoom), ("loop.example/g00637/impl.errNoHistory", laid_loop_example_g00637_impl_errNoHistory)] }
def FnExactWriteSaid : Prop := fnExactWriteRow.holds Tryz.pinned (OpenSpec.ofChange fnExactWriteSpec)

/-- ITS FALSE NEIGHBOUR: 'it returns false'. Refute it at one input. -/
def fnExactWriteWrong : ChangeSpec := { name := "fnExactWrite", vars := ["loop.example/g00637/impl.errInvalid", "loop.example/g00637/impl.errNoHistory", "loop.example/g00637/impl.errNoRoom"], fn := fun _ => fun
  | [d1, d2, d3, g1, g2, g3] => { results := [.lit (.bool false)], args := [d1, d2, d3], vars := [g1, g2, g3] }
  | _ => none }
def FnExactWriteWrongFalsely : Prop := fnExactWriteRow.holds Tryz.pinned (OpenSpec.ofChange fnExactWriteWrong)

/-- 'laws.FnExactTrim': WHATEVER THE INPUT: true; the input reads as it did. -/
def fnExactTrimSpec : ChangeSpec := { name := "fnExactTrim", vars := ["loop.example/g00637/impl.errInvalid", "loop.example/g00637/impl.errNoHistory", "loop.example/g00637/impl.errNoRoom"], fn := fun _ => fun
  | [d1, d2, g1, g2, g3] => { results := [.lit (.bool true)], args := [d1, d2], vars := [g1, g2, g3] }
  | _ => none }
def fnExactTrimRow : OpenClaim := { program := "ytohmkjgmhippoaagreatdoor", sum := "8fb4989e3befc0b7a1ff1d78a6bafda5a7350e34d43091a2c10f793feae0b0f2", func := "loop.example/g00637/laws.FnExactTrim", spec := "fnExactTrim", inPlace := ["internal/reflectlite.ValueOf", "(internal/reflectlite.Value).Type", "(internal/reflectlite.Value).IsNil", "internal/reflectlite.TypeOf", "(internal/reflectlite.Value).Elem", "(internal/reflectlite.Value).Set", "slices.overlaps[int64]"], unfollowed := true, recurses := true, named := ["loop.example/g00637/impl.errInvalid", "loop.example/g00637/impl.errNoHistory", "errors.errorType", "loop.example/g00637/impl.errNoRoom"], ifaces := true, apart := false, laid := [("errors.errorType", laid_errors_errorType), ("loop.example/g00637/impl.errInvalid", laid_loop_example_g00637_impl_errInvalid), ("loop.example/g00637/impl.errNoRoom", laid_loop_example_g00637_impl_errNoRoom), ("loop.example/g00637/impl.errNoHistory", laid_loop_example_g00637_impl_errNoHistory)] }
def FnExactTrimSaid : Prop := fnExactTrimRow.holds Tryz.pinned (OpenSpec.ofChange fnExactTrimSpec)

/-- ITS FALSE NEIGHBOUR: 'it returns false'. Refute it at one input. -/
def fnExactTrimWrong : ChangeSpec := { name := "fnExactTrim", vars := ["loop.example/g00637/impl.errInvalid", "loop.example/g00637/impl.errNoHistory", "loop.example/g00637/impl.errNoRoom"], fn := fun _ => fun
  | [d1, d2, g1, g2, g3] => { results := [.lit (.bool false)], args := [d1, d2], vars := [g1, g2, g3] }
  | _ => none }
def FnExactTrimWrongFalsely : Prop := fnExactTrimRow.holds Tryz.pinned (OpenSpec.ofChange fnExactTrimWrong)

/-- 'laws.FnExactRead': WHATEVER THE INPUT: true; the input reads as it did. -/
def fnExactReadSpec : ChangeSpec := { name := "fnExactRead", vars := ["loop.example/g00637/impl.errInvalid", "loop.example/g00637/impl.errNoHistory"], fn := fun _ => fun
  | [d1, d2, g1, g2] => { results := [.lit (.bool true)], args := [d1, d2], vars := [g1, g2] }
  | _ => none }
def fnExactReadRow : OpenClaim := { program := "ytohmkjgmhippoaagreatdoor", sum := "8fb4989e3befc0b7a1ff1d78a6bafda5a7350e34d43091a2c10f793feae0b0f2", func := "loop.example/g00637/laws.FnExactRead", spec := "fnExactRead", inPlace := ["internal/reflectlite.ValueOf", "(internal/reflectlite.Value).Type", "(internal/reflectlite.Value).IsNil", "internal/reflectlite.TypeOf", "(internal/reflectlite.Value).Elem", "(internal/reflectlite.Value).Set"], unfollowed := true, recurses := true, named := ["loop.example/g00637/impl.errInvalid", "loop.example/g00637/impl.errNoHistory", "errors.errorType"], ifaces := true, apart := false, laid := [("errors.errorType", laid_errors_errorType), ("loop.example/g00637/impl.errInvalid", laid_loop_example_g00637_impl_errInvalid), ("loop.example/g00637/impl.errNoHistory", laid_loop_example_g00637_impl_errNoHistory)] }
def FnExactReadSaid : Prop := fnExactReadRow.holds Tryz.pinned (OpenSpec.ofChange fnExactReadSpec)

/-- ITS FALSE NEIGHBOUR: 'it returns false'. Refute it at one input. -/
def fnExactReadWrong : ChangeSpec := { name := "fnExactRead", vars := ["loop.example/g00637/impl.errInvalid", "loop.example/g00637/impl.errNoHistory"], fn := fun _ => fun
  | [d1, d2, g1, g2] => { results := [.lit (.bool false)], args := [d1, d2], vars := [g1, g2] }
  | _ => none }
def FnExactReadWrongFalsely : Prop := fnExactReadRow.holds Tryz.pinned (OpenSpec.ofChange fnExactReadWrong)

/-- 'laws.FnExactReadAt': WHATEVER THE INPUT: true; the input reads as it did. -/
def fnExactReadAtSpec : ChangeSpec := { name := "fnExactReadAt", vars := ["loop.example/g00637/impl.errInvalid", "loop.example/g00637/impl.errNoHistory"], fn := fun _ => fun
  | [d1, d2, d3, g1, g2] => { results := [.lit (.bool true)], args := [d1, d2, d3], vars := [g1, g2] }
  | _ => none }
def fnExactReadAtRow : OpenClaim := { program := "ytohmkjgmhippoaagreatdoor", sum := "8fb4989e3befc0b7a1ff1d78a6bafda5a7350e34d43091a2c10f793feae0b0f2", func := "loop.example/g00637/laws.FnExactReadAt", spec := "fnExactReadAt", inPlace := ["internal/reflectlite.ValueOf", "(internal/reflectlite.Value).Type", "(internal/reflectlite.Value).IsNil", "internal/reflectlite.TypeOf", "(internal/reflectlite.Value).Elem", "(internal/reflectlite.Value).Set"], unfollowed := true, recurses := true, named := ["loop.example/g00637/impl.errInvalid", "loop.example/g00637/impl.errNoHistory", "errors.errorType"], ifaces := true, apart := false, laid := [("errors.errorType", laid_errors_errorType), ("loop.example/g00637/impl.errInvalid", laid_loop_example_g00637_impl_errInvalid), ("loop.example/g00637/impl.errNoHistory", laid_loop_example_g00637_impl_errNoHistory)] }
def FnExactReadAtSaid : Prop := fnExactReadAtRow.holds Tryz.pinned (OpenSpec.ofChange fnExactReadAtSpec)

/-- ITS FALSE NEIGHBOUR: 'it returns false'. Refute it at one input. -/
def fnExactReadAtWrong : ChangeSpec := { name := "fnExactReadAt", vars := ["loop.example/g00637/impl.errInvalid", "loop.example/g00637/impl.errNoHistory"], fn := fun _ => fun
  | [d1, d2, d3, g1, g2] => { results := [.lit (.bool false)], args := [d1, d2, d3], vars := [g1, g2] }
  | _ => none }
def FnExactReadAtWrongFalsely : Prop := fnExactReadAtRow.holds Tryz.pinned (OpenSpec.ofChange fnExactReadAtWrong)

/-- 'laws.FnExactRollTo': WHATEVER THE INPUT: true; the input reads as it did. -/
def fnExactRollToSpec : ChangeSpec := { name := "fnExactRollTo", vars := ["loop.example/g00637/impl.errInvalid", "loop.example/g00637/impl.errNoHistory", "loop.example/g00637/impl.errNoRoom"], fn := fun _ => fun
  | [d1, d2, g1, g2, g3] => { results := [.lit (.bool true)], args := [d1, d2], vars := [g1, g2, g3] }
  | _ => none }
def fnExactRollToRow : OpenClaim := { program := "ytohmkjgmhippoaagreatdoor", sum := "8fb4989e3befc0b7a1ff1d78a6bafda5a7350e34d43091a2c10f793feae0b0f2", func := "loop.example/g00637/laws.FnExactRollTo", spec := "fnExactRollTo", inPlace := ["internal/reflectlite.ValueOf", "(internal/reflectlite.Value).Type", "(internal/reflectlite.Value).IsNil", "internal/reflectlite.TypeOf", "(internal/reflectlite.Value).Elem", "(internal/reflectlite.Value).Set", "slices.overlaps[int64]"], unfollowed := true, recurses := true, named := ["loop.example/g00637/impl.errInvalid", "loop.example/g00637/impl.errNoHistory", "errors.errorType", "loop.example/g00637/impl.errNoRoom"], ifaces := true, apart := false, laid := [("errors.errorType", laid_errors_errorType), ("loop.example/g00637/impl.errInvalid", laid_loop_example_g00637_impl_errInvalid), ("loop.example/g00637/impl.errNoRoom", laid_loop_example_g00637_impl_errNoRoom), ("loop.example/g00637/impl.errNoHistory", laid_loop_example_g00637_impl_errNoHistory)] }
def FnExactRollToSaid : Prop := fnExactRollToRow.holds Tryz.pinned (OpenSpec.ofChange fnExactRollToSpec)

/-- ITS FALSE NEIGHBOUR: 'it returns false'. Refute it at one input. -/
def fnExactRollToWrong : ChangeSpec := { name := "fnExactRollTo", vars := ["loop.example/g00637/impl.errInvalid", "loop.example/g00637/impl.errNoHistory", "loop.example/g00637/impl.errNoRoom"], fn := fun _ => fun
  | [d1, d2, g1, g2, g3] => { results := [.lit (.bool false)], args := [d1, d2], vars := [g1, g2, g3] }
  | _ => none }
def FnExactRollToWrongFalsely : Prop := fnExactRollToRow.holds Tryz.pinned (OpenSpec.ofChange fnExactRollToWrong)

/-- 'laws.FnExactRaise': WHATEVER THE INPUT: true; the input reads as it did. -/
def fnExactRaiseSpec : ChangeSpec := { name := "fnExactRaise", vars := ["loop.example/g00637/impl.errInvalid", "loop.example/g00637/impl.errNoHistory", "loop.example/g00637/impl.errNoRoom"], fn := fun _ => fun
  | [d, g1, g2, g3] => { results := [.lit (.bool true)], args := [d], vars := [g1, g2, g3] }
  | _ => none }
def fnExactRaiseRow : OpenClaim := { program := "ytohmkjgmhippoaagreatdoor", sum := "8fb4989e3befc0b7a1ff1d78a6bafda5a7350e34d43091a2c10f793feae0b0f2", func := "loop.example/g00637/laws.FnExactRaise", spec := "fnExactRaise", inPlace := ["internal/reflectlite.ValueOf", "(internal/reflectlite.Value).Type", "(internal/reflectlite.Value).IsNil", "internal/reflectlite.TypeOf", "(internal/reflectlite.Value).Elem", "(internal/reflectlite.Value).Set", "slices.overlaps[int64]"], unfollowed := true, recurses := true, named := ["loop.example/g00637/impl.errInvalid", "loop.example/g00637/impl.errNoHistory", "errors.errorType", "loop.example/g00637/impl.errNoRoom"], ifaces := true, apart := false, laid := [("errors.errorType", laid_errors_errorType), ("loop.example/g00637/impl.errInvalid", laid_loop_example_g00637_impl_errInvalid), ("loop.example/g00637/impl.errNoRoom", laid_loop_example_g00637_impl_errNoRoom), ("loop.example/g00637/impl.errNoHistory", laid_loop_example_g00637_impl_errNoHistory)] }
def FnExactRaiseSaid : Prop := fnExactRaiseRow.holds Tryz.pinned (OpenSpec.ofChange fnExactRaiseSpec)

/-- ITS FALSE NEIGHBOUR: 'it returns false'. Refute it at one input. -/
def fnExactRaiseWrong : ChangeSpec := { name := "fnExactRaise", vars := ["loop.example/g00637/impl.errInvalid", "loop.example/g00637/impl.errNoHistory", "loop.example/g00637/impl.errNoRoom"], fn := fun _ => fun
  | [d, g1, g2, g3] => { results := [.lit (.bool false)], args := [d], vars := [g1, g2, g3] }
  | _ => none }
def FnExactRaiseWrongFalsely : Prop := fnExactRaiseRow.holds Tryz.pinned (OpenSpec.ofChange fnExactRaiseWrong)

/-- 'laws.FnExactCollect': WHATEVER THE INPUT: true; the input reads as it did. -/
def fnExactCollectSpec : ChangeSpec := { name := "fnExactCollect", vars := ["loop.example/g00637/impl.errInvalid", "loop.example/g00637/impl.errNoHistory", "loop.example/g00637/impl.errNoRoom"], fn := fun _ => fun
  | [d1, d2, g1, g2, g3] => { results := [.lit (.bool true)], args := [d1, d2], vars := [g1, g2, g3] }
  | _ => none }
def fnExactCollectRow : OpenClaim := { program := "ytohmkjgmhippoaagreatdoor", sum := "8fb4989e3befc0b7a1ff1d78a6bafda5a7350e34d43091a2c10f793feae0b0f2", func := "loop.example/g00637/laws.FnExactCollect", spec := "fnExactCollect", inPlace := ["internal/reflectlite.ValueOf", "(internal/reflectlite.Value).Type", "(internal/reflectlite.Value).IsNil", "internal/reflectlite.TypeOf", "(internal/reflectlite.Value).Elem", "(internal/reflectlite.Value).Set", "slices.overlaps[int64]"], unfollowed := true, recurses := true, named := ["loop.example/g00637/impl.errInvalid", "loop.example/g00637/impl.errNoHistory", "errors.errorType", "loop.example/g00637/impl.errNoRoom"], ifaces := true, apart := false, laid := [("errors.errorType", laid_errors_errorType), ("loop.example/g00637/impl.errInvalid", laid_loop_example_g00637_impl_errInvalid), ("loop.example/g00637/impl.errNoRoom", laid_loop_example_g00637_impl_errNoRoom), ("loop.example/g00637/impl.errNoHistory", laid_loop_example_g00637_impl_errNoHistory)] }
def FnExactCollectSaid : Prop := fnExactCollectRow.holds Tryz.pinned (OpenSpec.ofChange fnExactCollectSpec)

/-- ITS FALSE NEIGHBOUR: 'it returns false'. Refute it at one input. -/
def fnExactCollectWrong : ChangeSpec := { name := "fnExactCollect", vars := ["loop.example/g00637/impl.errInvalid", "loop.example/g00637/impl.errNoHistory", "loop.example/g00637/impl.errNoRoom"], fn := fun _ => fun
  | [d1, d2, g1, g2, g3] => { results := [.lit (.bool false)], args := [d1, d2], vars := [g1, g2, g3] }
  | _ => none }
def FnExactCollectWrongFalsely : Prop := fnExactCollectRow.holds Tryz.pinned (OpenSpec.ofChange fnExactCollectWrong)

/-- 'laws.FnExactRestart': WHATEVER THE INPUT: true; the input reads as it did. -/
def fnExactRestartSpec : ChangeSpec := { name := "fnExactRestart", vars := ["loop.example/g00637/impl.errInvalid", "loop.example/g00637/impl.errNoHistory"], fn := fun _ => fun
  | [d1, d2, d3, g1, g2] => { results := [.lit (.bool true)], args := [d1, d2, d3], vars := [g1, g2] }
  | _ => none }
def fnExactRestartRow : OpenClaim := { program := "ytohmkjgmhippoaagreatdoor", sum := "8fb4989e3befc0b7a1ff1d78a6bafda5a7350e34d43091a2c10f793feae0b0f2", func := "loop.example/g00637/laws.FnExactRestart", spec := "fnExactRestart", inPlace := ["internal/reflectlite.ValueOf", "(internal/reflectlite.Value).Type", "(internal/reflectlite.Value).IsNil", "internal/reflectlite.TypeOf", "(internal/reflectlite.Value).Elem", "(internal/reflectlite.Value).Set"], unfollowed := true, recurses := true, named := ["loop.example/g00637/impl.errInvalid", "loop.example/g00637/impl.errNoHistory", "errors.errorType"], ifaces := true, apart := false, laid := [("errors.errorType", laid_errors_errorType), ("loop.example/g00637/impl.errInvalid", laid_loop_example_g00637_impl_errInvalid), ("loop.example/g00637/impl.errNoHistory", laid_loop_example_g00637_impl_errNoHistory)] }
def FnExactRestartSaid : Prop := fnExactRestartRow.holds Tryz.pinned (OpenSpec.ofChange fnExactRestartSpec)

/-- ITS FALSE NEIGHBOUR: 'it returns false'. Refute it at one input. -/
def fnExactRestartWrong : ChangeSpec := { name := "fnExactRestart", vars := ["loop.example/g00637/impl.errInvalid", "loop.example/g00637/impl.errNoHistory"], fn := fun _ => fun
  | [d1, d2, d3, g1, g2] => { results := [.lit (.bool false)], args := [d1, d2, d3], vars := [g1, g2] }
  | _ => none }
def FnExactRestartWrongFalsely : Prop := fnExactRestartRow.holds Tryz.pinned (OpenSpec.ofChange fnExactRestartWrong)

/-- 'laws.FnExactWear': WHATEVER THE INPUT: true; the input reads as it did. -/
def fnExactWearSpec : ChangeSpec := { name := "fnExactWear", vars := ["loop.example/g00637/impl.errInvalid", "loop.example/g00637/impl.errNoHistory"], fn := fun _ => fun
  | [d, g1, g2] => { results := [.lit (.bool true)], args := [d], vars := [g1, g2] }
  | _ => none }
def fnExactWearRow : OpenClaim := { program := "ytohmkjgmhippoaagreatdoor", sum := "8fb4989e3befc0b7a1ff1d78a6bafda5a7350e34d43091a2c10f793feae0b0f2", func := "loop.example/g00637/laws.FnExactWear", spec := "fnExactWear", inPlace := ["internal/reflectlite.ValueOf", "(internal/reflectlite.Value).Type", "(internal/reflectlite.Value).IsNil", "internal/reflectlite.TypeOf", "(internal/reflectlite.Value).Elem", "(internal/reflectlite.Value).Set"], unfollowed := true, recurses := true, named := ["loop.example/g00637/impl.errInvalid", "loop.example/g00637/impl.errNoHistory", "errors.errorType"], ifaces := true, apart := false, laid := [("errors.errorType", laid_errors_errorType), ("loop.example/g00637/impl.errInvalid", laid_loop_example_g00637_impl_errInvalid), ("loop.example/g00637/impl.errNoHistory", laid_loop_example_g00637_impl_errNoHistory)] }
def FnExactWearSaid : Prop := fnExactWearRow.holds Tryz.pinned (OpenSpec.ofChange fnExactWearSpec)

/-- ITS FALSE NEIGHBOUR: 'it returns false'. Refute it at one input. -/
def fnExactWearWrong : ChangeSpec := { name := "fnExactWear", vars := ["loop.example/g00637/impl.errInvalid", "loop.example/g00637/impl.errNoHistory"], fn := fun _ => fun
  | [d, g1, g2] => { results := [.lit (.bool false)], args := [d], vars := [g1, g2] }
  | _ => none }
def FnExactWearWrongFalsely : Prop := fnExactWearRow.holds Tryz.pinned (OpenSpec.ofChange fnExactWearWrong)

/- THE SECOND FORM. 'bulk': how many values and letters a reading holds, each counted each time it is reached (what is shared counts as often as it is met; a slice's spare places count too). A statement '..UptoSaid' is the law's where the arguments, and the package variables that the reading takes, are together of bulk at most 1048576: NARROWER than '..Said'. Prove '..Said' where nothing that the law and all that it calls make is longer than what came in: it says more and counts as full. Else prove '..UptoSaid'. A law counts once. -/
mutual
def uptoBulk {H : Type} : DataW H → Nat
  | .lit (.string bytes) => bytes.length + 1
  | .lit _ => 1
  | .nil => 1
  | .ptr d => uptoBulk d + 1
  | .slice elems spare => uptoBulkAll elems + uptoBulkAll spare + 1
  | .agg parts => uptoBulkAll parts + 1
  | .iface _ d => uptoBulk d + 1
  | .map entries => uptoBulkEntries entries + 1
  | .held _ => 1
def uptoBulkAll {H : Type} : List (DataW H) → Nat
  | [] => 0
  | d :: r => uptoBulk d + uptoBulkAll r
def uptoBulkEntries {H : Type} : List (Lit × DataW H) → Nat
  | [] => 0
  | x :: r => uptoBulkEntry x + uptoBulkEntries r
def uptoBulkEntry {H : Type} : Lit × DataW H → Nat
  | (.string bytes, d) => bytes.length + uptoBulk d + 1
  | (_, d) => uptoBulk d + 1
 end
def uptoSmall : (H : Type) → List (DataW H) → Bool := fun _ ds => decide (uptoBulkAll ds ≤ 1048576)
def OpenSpec.upto (s : _root_.Go.ChangeSpec) : _root_.Go.OpenSpec := { _root_.Go.OpenSpec.ofChange s with cond := some uptoSmall }

/-- 'laws.FnExactDriveRight', WHERE WHAT IT READS IS OF BULK AT MOST 1048576: true; the input reads as it did. -/
def fnExactDriveRightUptoRow : OpenClaim := { program := "ytohmkjgmhippoaagreatdoor", sum := "8fb4989e3befc0b7a1ff1d78a6bafda5a7350e34d43091a2c10f793feae0b0f2", func := "loop.example/g00637/laws.FnExactDriveRight", spec := "fnExactDriveRight", inPlace := ["internal/reflectlite.ValueOf", "(internal/reflectlite.Value).Type", "(internal/reflectlite.Value).IsNil", "internal/reflectlite.TypeOf", "(internal/reflectlite.Value).Elem", "(internal/reflectlite.Value).Set"], unfollowed := true, recurses := true, named := ["loop.example/g00637/impl.errInvalid", "loop.example/g00637/impl.errNoHistory", "errors.errorType"], ifaces := true, apart := false, laid := [("errors.errorType", laid_errors_errorType), ("loop.example/g00637/impl.errInvalid", laid_loop_example_g00637_impl_errInvalid), ("loop.example/g00637/impl.errNoHistory", laid_loop_example_g00637_impl_errNoHistory)], narrowed := true }
def FnExactDriveRightUptoSaid : Prop := fnExactDriveRightUptoRow.holds Tryz.pinned (OpenSpec.upto fnExactDriveRightSpec)

/-- 'laws.FnExactFormat', WHERE WHAT IT READS IS OF BULK AT MOST 1048576: true; the input reads as it did. -/
def fnExactFormatUptoRow : OpenClaim := { program := "ytohmkjgmhippoaagreatdoor", sum := "8fb4989e3befc0b7a1ff1d78a6bafda5a7350e34d43091a2c10f793feae0b0f2", func := "loop.example/g00637/laws.FnExactFormat", spec := "fnExactFormat", inPlace := ["internal/reflectlite.ValueOf", "(internal/reflectlite.Value).Type", "(internal/reflectlite.Value).IsNil", "internal/reflectlite.TypeOf", "(internal/reflectlite.Value).Elem", "(internal/reflectlite.Value).Set"], unfollowed := true, recurses := true, named := ["loop.example/g00637/impl.errInvalid", "loop.example/g00637/impl.errNoHistory", "errors.errorType"], ifaces := true, apart := false, laid := [("errors.errorType", laid_errors_errorType), ("loop.example/g00637/impl.errInvalid", laid_loop_example_g00637_impl_errInvalid), ("loop.example/g00637/impl.errNoHistory", laid_loop_example_g00637_impl_errNoHistory)], narrowed := true }
def FnExactFormatUptoSaid : Prop := fnExactFormatUptoRow.holds Tryz.pinned (OpenSpec.upto fnExactFormatSpec)

/-- 'laws.FnExactTick', WHERE WHAT IT READS IS OF BULK AT MOST 1048576: true; the input reads as it did. -/
def fnExactTickUptoRow : OpenClaim := { program := "ytohmkjgmhippoaagreatdoor", sum := "8fb4989e3befc0b7a1ff1d78a6bafda5a7350e34d43091a2c10f793feae0b0f2", func := "loop.example/g00637/laws.FnExactTick", spec := "fnExactTick", inPlace := ["internal/reflectlite.ValueOf", "(internal/reflectlite.Value).Type", "(internal/reflectlite.Value).IsNil", "internal/reflectlite.TypeOf", "(internal/reflectlite.Value).Elem", "(internal/reflectlite.Value).Set", "slices.overlaps[int64]"], unfollowed := true, recurses := true, named := ["loop.example/g00637/impl.errInvalid", "loop.example/g00637/impl.errNoHistory", "errors.errorType", "loop.example/g00637/impl.errNoRoom"], ifaces := true, apart := false, laid := [("errors.errorType", laid_errors_errorType), ("loop.example/g00637/impl.errInvalid", laid_loop_example_g00637_impl_errInvalid), ("loop.example/g00637/impl.errNoRoom", laid_loop_example_g00637_impl_errNoRoom), ("loop.example/g00637/impl.errNoHistory", laid_loop_example_g00637_impl_errNoHistory)], narrowed := true }
def FnExactTickUptoSaid : Prop := fnExactTickUptoRow.holds Tryz.pinned (OpenSpec.upto fnExactTickSpec)

/-- 'laws.FnExactWrite', WHERE WHAT IT READS IS OF BULK AT MOST 1048576: true; the input reads as it did. -/
def fnExactWriteUptoRow : OpenClaim := { program := "ytohmkjgmhippoaagreatdoor", sum := "8fb4989e3befc0b7a1ff1d78a6bafda5a7350e34d43091a2c10f793feae0b0f2", func := "loop.example/g00637/laws.FnExactWrite", spec := "fnExactWrite", inPlace := ["internal/reflectlite.ValueOf", "(internal/reflectlite.Value).Type", "(internal/reflectlite.Value).IsNil", "internal/reflectlite.TypeOf", "(internal/reflectlite.Value).Elem", "(internal/reflectlite.Value).Set", "slices.overlaps[int64]"], unfollowed := true, recurses := true, named := ["loop.example/g00637/impl.errInvalid", "loop.example/g00637/impl.errNoHistory", "errors.errorType", "loop.example/g00637/impl.errNoRoom"], ifaces := true, apart := false, laid := [("errors.errorType", laid_errors_errorType), ("loop.example/g00637/impl.errInvalid", laid_loop_example_g00637_impl_errInvalid), ("loop.example/g00637/impl.errNoRoom", laid_loop_example_g00637_impl_errNoRoom), ("loop.example/g00637/impl.errNoHistory", laid_loop_example_g00637_impl_errNoHistory)], narrowed := true }
def FnExactWriteUptoSaid : Prop := fnExactWriteUptoRow.holds Tryz.pinned (OpenSpec.upto fnExactWriteSpec)

/-- 'laws.FnExactTrim', WHERE WHAT IT READS IS OF BULK AT MOST 1048576: true; the input reads as it did. -/
def fnExactTrimUptoRow : OpenClaim := { program := "ytohmkjgmhippoaagreatdoor", sum := "8fb4989e3befc0b7a1ff1d78a6bafda5a7350e34d43091a2c10f793feae0b0f2", func := "loop.example/g00637/laws.FnExactTrim", spec := "fnExactTrim", inPlace := ["internal/reflectlite.ValueOf", "(internal/reflectlite.Value).Type", "(internal/reflectlite.Value).IsNil", "internal/reflectlite.TypeOf", "(internal/reflectlite.Value).Elem", "(internal/reflectlite.Value).Set", "slices.overlaps[int64]"], unfollowed := true, recurses := true, named := ["loop.example/g00637/impl.errInvalid", "loop.example/g00637/impl.errNoHistory", "errors.errorType", "loop.example/g00637/impl.errNoRoom"], ifaces := true, apart := false, laid := [("errors.errorType", laid_errors_errorType), ("loop.example/g00637/impl.errInvalid", laid_loop_example_g00637_impl_errInvalid), ("loop.example/g00637/impl.errNoRoom", laid_loop_example_g00637_impl_errNoRoom), ("loop.example/g00637/impl.errNoHistory", laid_loop_example_g00637_impl_errNoHistory)], narrowed := true }
def FnExactTrimUptoSaid : Prop := fnExactTrimUptoRow.holds Tryz.pinned (OpenSpec.upto fnExactTrimSpec)

/-- 'laws.FnExactRead', WHERE WHAT IT READS IS OF BULK AT MOST 1048576: true; the input reads as it did. -/
def fnExactReadUptoRow : OpenClaim := { program := "ytohmkjgmhippoaagreatdoor", sum := "8fb4989e3befc0b7a1ff1d78a6bafda5a7350e34d43091a2c10f793feae0b0f2", func := "loop.example/g00637/laws.FnExactRead", spec := "fnExactRead", inPlace := ["internal/reflectlite.ValueOf", "(internal/reflectlite.Value).Type", "(internal/reflectlite.Value).IsNil", "internal/reflectlite.TypeOf", "(internal/reflectlite.Value).Elem", "(internal/reflectlite.Value).Set"], unfollowed := true, recurses := true, named := ["loop.example/g00637/impl.errInvalid", "loop.example/g00637/impl.errNoHistory", "errors.errorType"], ifaces := true, apart := false, laid := [("errors.errorType", laid_errors_errorType), ("loop.example/g00637/impl.errInvalid", laid_loop_example_g00637_impl_errInvalid), ("loop.example/g00637/impl.errNoHistory", laid_loop_example_g00637_impl_errNoHistory)], narrowed := true }
def FnExactReadUptoSaid : Prop := fnExactReadUptoRow.holds Tryz.pinned (OpenSpec.upto fnExactReadSpec)

/-- 'laws.FnExactReadAt', WHERE WHAT IT READS IS OF BULK AT MOST 1048576: true; the input reads as it did. -/
def fnExactReadAtUptoRow : OpenClaim := { program := "ytohmkjgmhippoaagreatdoor", sum := "8fb4989e3befc0b7a1ff1d78a6bafda5a7350e34d43091a2c10f793feae0b0f2", func := "loop.example/g00637/laws.FnExactReadAt", spec := "fnExactReadAt", inPlace := ["internal/reflectlite.ValueOf", "(internal/reflectlite.Value).Type", "(internal/reflectlite.Value).IsNil", "internal/reflectlite.TypeOf", "(internal/reflectlite.Value).Elem", "(internal/reflectlite.Value).Set"], unfollowed := true, recurses := true, named := ["loop.example/g00637/impl.errInvalid", "loop.example/g00637/impl.errNoHistory", "errors.errorType"], ifaces := true, apart := false, laid := [("errors.errorType", laid_errors_errorType), ("loop.example/g00637/impl.errInvalid", laid_loop_example_g00637_impl_errInvalid), ("loop.example/g00637/impl.errNoHistory", laid_loop_example_g00637_impl_errNoHistory)], narrowed := true }
def FnExactReadAtUptoSaid : Prop := fnExactReadAtUptoRow.holds Tryz.pinned (OpenSpec.upto fnExactReadAtSpec)

/-- 'laws.FnExactRollTo', WHERE WHAT IT READS IS OF BULK AT MOST 1048576: true; the input reads as it did. -/
def fnExactRollToUptoRow : OpenClaim := { program := "ytohmkjgmhippoaagreatdoor", sum := "8fb4989e3befc0b7a1ff1d78a6bafda5a7350e34d43091a2c10f793feae0b0f2", func := "loop.example/g00637/laws.FnExactRollTo", spec := "fnExactRollTo", inPlace := ["internal/reflectlite.ValueOf", "(internal/reflectlite.Value).Type", "(internal/reflectlite.Value).IsNil", "internal/reflectlite.TypeOf", "(internal/reflectlite.Value).Elem", "(internal/reflectlite.Value).Set", "slices.overlaps[int64]"], unfollowed := true, recurses := true, named := ["loop.example/g00637/impl.errInvalid", "loop.example/g00637/impl.errNoHistory", "errors.errorType", "loop.example/g00637/impl.errNoRoom"], ifaces := true, apart := false, laid := [("errors.errorType", laid_errors_errorType), ("loop.example/g00637/impl.errInvalid", laid_loop_example_g00637_impl_errInvalid), ("loop.example/g00637/impl.errNoRoom", laid_loop_example_g00637_impl_errNoRoom), ("loop.example/g00637/impl.errNoHistory", laid_loop_example_g00637_impl_errNoHistory)], narrowed := true }
def FnExactRollToUptoSaid : Prop := fnExactRollToUptoRow.holds Tryz.pinned (OpenSpec.upto fnExactRollToSpec)

/-- 'laws.FnExactRaise', WHERE WHAT IT READS IS OF BULK AT MOST 1048576: true; the input reads as it did. -/
def fnExactRaiseUptoRow : OpenClaim := { program := "ytohmkjgmhippoaagreatdoor", sum := "8fb4989e3befc0b7a1ff1d78a6bafda5a7350e34d43091a2c10f793feae0b0f2", func := "loop.example/g00637/laws.FnExactRaise", spec := "fnExactRaise", inPlace := ["internal/reflectlite.ValueOf", "(internal/reflectlite.Value).Type", "(internal/reflectlite.Value).IsNil", "internal/reflectlite.TypeOf", "(internal/reflectlite.Value).Elem", "(internal/reflectlite.Value).Set", "slices.overlaps[int64]"], unfollowed := true, recurses := true, named := ["loop.example/g00637/impl.errInvalid", "loop.example/g00637/impl.errNoHistory", "errors.errorType", "loop.example/g00637/impl.errNoRoom"], ifaces := true, apart := false, laid := [("errors.errorType", laid_errors_errorType), ("loop.example/g00637/impl.errInvalid", laid_loop_example_g00637_impl_errInvalid), ("loop.example/g00637/impl.errNoRoom", laid_loop_example_g00637_impl_errNoRoom), ("loop.example/g00637/impl.errNoHistory", laid_loop_example_g00637_impl_errNoHistory)], narrowed := true }
def FnExactRaiseUptoSaid : Prop := fnExactRaiseUptoRow.holds Tryz.pinned (OpenSpec.upto fnExactRaiseSpec)

/-- 'laws.FnExactCollect', WHERE WHAT IT READS IS OF BULK AT MOST 1048576: true; the input reads as it did. -/
def fnExactCollectUptoRow : OpenClaim := { program := "ytohmkjgmhippoaagreatdoor", sum := "8fb4989e3befc0b7a1ff1d78a6bafda5a7350e34d43091a2c10f793feae0b0f2", func := "loop.example/g00637/laws.FnExactCollect", spec := "fnExactCollect", inPlace := ["internal/reflectlite.ValueOf", "(internal/reflectlite.Value).Type", "(internal/reflectlite.Value).IsNil", "internal/reflectlite.TypeOf", "(internal/reflectlite.Value).Elem", "(internal/reflectlite.Value).Set", "slices.overlaps[int64]"], unfollowed := true, recurses := true, named := ["loop.example/g00637/impl.errInvalid", "loop.example/g00637/impl.errNoHistory", "errors.errorType", "loop.example/g00637/impl.errNoRoom"], ifaces := true, apart := false, laid := [("errors.errorType", laid_errors_errorType), ("loop.example/g00637/impl.errInvalid", laid_loop_example_g00637_impl_errInvalid), ("loop.example/g00637/impl.errNoRoom", laid_loop_example_g00637_impl_errNoRoom), ("loop.example/g00637/impl.errNoHistory", laid_loop_example_g00637_impl_errNoHistory)], narrowed := true }
def FnExactCollectUptoSaid : Prop := fnExactCollectUptoRow.holds Tryz.pinned (OpenSpec.upto fnExactCollectSpec)

/-- 'laws.FnExactRestart', WHERE WHAT IT READS IS OF BULK AT MOST 1048576: true; the input reads as it did. -/
def fnExactRestartUptoRow : OpenClaim := { program := "ytohmkjgmhippoaagreatdoor", sum := "8fb4989e3befc0b7a1ff1d78a6bafda5a7350e34d43091a2c10f793feae0b0f2", func := "loop.example/g00637/laws.FnExactRestart", spec := "fnExactRestart", inPlace := ["internal/reflectlite.ValueOf", "(internal/reflectlite.Value).Type", "(internal/reflectlite.Value).IsNil", "internal/reflectlite.TypeOf", "(internal/reflectlite.Value).Elem", "(internal/reflectlite.Value).Set"], unfollowed := true, recurses := true, named := ["loop.example/g00637/impl.errInvalid", "loop.example/g00637/impl.errNoHistory", "errors.errorType"], ifaces := true, apart := false, laid := [("errors.errorType", laid_errors_errorType), ("loop.example/g00637/impl.errInvalid", laid_loop_example_g00637_impl_errInvalid), ("loop.example/g00637/impl.errNoHistory", laid_loop_example_g00637_impl_errNoHistory)], narrowed := true }
def FnExactRestartUptoSaid : Prop := fnExactRestartUptoRow.holds Tryz.pinned (OpenSpec.upto fnExactRestartSpec)

/-- 'laws.FnExactWear', WHERE WHAT IT READS IS OF BULK AT MOST 1048576: true; the input reads as it did. -/
def fnExactWearUptoRow : OpenClaim := { program := "ytohmkjgmhippoaagreatdoor", sum := "8fb4989e3befc0b7a1ff1d78a6bafda5a7350e34d43091a2c10f793feae0b0f2", func := "loop.example/g00637/laws.FnExactWear", spec := "fnExactWear", inPlace := ["internal/reflectlite.ValueOf", "(internal/reflectlite.Value).Type", "(internal/reflectlite.Value).IsNil", "internal/reflectlite.TypeOf", "(internal/reflectlite.Value).Elem", "(internal/reflectlite.Value).Set"], unfollowed := true, recurses := true, named := ["loop.example/g00637/impl.errInvalid", "loop.example/g00637/impl.errNoHistory", "errors.errorType"], ifaces := true, apart := false, laid := [("errors.errorType", laid_errors_errorType), ("loop.example/g00637/impl.errInvalid", laid_loop_example_g00637_impl_errInvalid), ("loop.example/g00637/impl.errNoHistory", laid_loop_example_g00637_impl_errNoHistory)], narrowed := true }
def FnExactWearUptoSaid : Prop := fnExactWearUptoRow.holds Tryz.pinned (OpenSpec.upto fnExactWearSpec)

end Rows
end Go.Proofs.YtohmkjgmhippoaaGreatDoor
