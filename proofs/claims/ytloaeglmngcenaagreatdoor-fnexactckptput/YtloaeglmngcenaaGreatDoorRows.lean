/-
  NARROWER THAN 'FOR EVERY INPUT', by the rows' own cells (each row's printed sentence says how): FnLog: ifaces, laid · FnRoll: ifaces, laid · FnPast: ifaces, laid · FnExactCkptPut: laid · FnExactMountWith: ifaces, laid.
  DERIVED. THE GIVEN ROWS OF THIS SEAT. 5 by the template 'for every input the law returns true; each argument reads behind the call as it read before'; 0 by the template 'total and deterministic' (their statements: YtloaeglmngcenaaGreatDoorTotals.lean).
  GIVEN WITH THE SEED: the statements are not yours to turn. If you find one false, say at which input.
  Laid BY PROGRAM, IN A SANDBOX (cutbox-rows.mjs): the forced cells as the released guide's own fill.sh prints them over the translation c7f99a7fd9badbe1… (all of the seat's roots in one cut). By AI agents, Wed Nov 11 2026. No macro, syntax, notation, axiom, sorry.
-/
import Derived.Test.YtloaeglmngcenaaGreatDoorChecked
import GoSem.Claim
import GoSem.ClaimJoined
import GoSem.ClaimMapViews
import Derived.JoinedTies
import Derived.KernelRfl
namespace Go.Proofs.YtloaeglmngcenaaGreatDoor
/- THE CELL 'sum', in the pinned program and in every row, IS THE sha256 OF THE DUMP (.gsa) THAT YtloaeglmngcenaaGreatDoorProg.lean LOADS. Nothing in Lean hashes anything: it is a label: what it is worth is what the hold of that sum in a sandbox is worth. -/
noncomputable def Tryz.pinned : Pinned := { name := "ytloaeglmngcenaagreatdoor", sum := "c7f99a7fd9badbe1ba6423fafc3421b169292cbe7db10108ae28ca2b124fdb15", checked := Tryz.checked }
namespace Rows
def none {H : Type} : Left H := { results := [], args := [] }

/- WHAT THE LISTED PACKAGE-LEVEL VARIABLES READ AS WHEN THE CALL BEGINS. Each datum BY PROGRAM (the guide's laid-datum.mjs) off the statement by which the dump's own 'gosem.cut.vars' lays the variable. In a bare row this is a premise. The card (YtloaeglmngcenaaGreatDoorCards.lean) ties it to the program's text. -/
def laid_errors_errorType {H : Type} : DataW H := .iface "internal/reflectlite.rtype" (.agg [.ptr (.lit (.string [101, 114, 114, 111, 114]))])
def laid_loop_example_g00637_impl_errInvalid {H : Type} : DataW H := .iface "*errors.errorString" (.ptr (.agg [.lit (.string [97, 110, 32, 97, 114, 103, 117, 109, 101, 110, 116, 32, 105, 115, 32, 105, 110, 118, 97, 108, 105, 100])]))
def laid_loop_example_g00637_impl_errNoRoom {H : Type} : DataW H := .iface "*errors.errorString" (.ptr (.agg [.lit (.string [116, 104, 101, 114, 101, 32, 105, 115, 32, 110, 111, 32, 98, 108, 111, 99, 107, 32, 102, 111, 114, 32, 116, 104, 101, 32, 110, 101, 120, 116, 32, 112, 97, 103, 101])]))
def laid_loop_example_g00637_impl_errNoHistory {H : Type} : DataW H := .iface "*errors.errorString" (.ptr (.agg [.lit (.string [116, 104, 101, 32, 114, 101, 99, 111, 114, 100, 115, 32, 97, 114, 101, 32, 110, 111, 32, 118, 97, 108, 105, 100, 32, 104, 105, 115, 116, 111, 114, 121])]))

/-- 'laws.FnLog': WHATEVER THE INPUT: true; the input reads as it did. -/
def fnLogSpec : ChangeSpec := { name := "fnLog", vars := ["loop.example/g00637/impl.errInvalid", "loop.example/g00637/impl.errNoHistory", "loop.example/g00637/impl.errNoRoom"], fn := fun _ => fun
  | [d1, d2, g1, g2, g3] => { results := [.lit (.bool true)], args := [d1, d2], vars := [g1, g2, g3] }
  | _ => none }
def fnLogRow : OpenClaim := { program := "ytloaeglmngcenaagreatdoor", sum := "c7f99a7fd9badbe1ba6423fafc3421b169292cbe7db10108ae28ca2b124fdb15", func := "loop.example/g00637/laws.FnLog", spec := "fnLog", inPlace := ["internal/reflectlite.ValueOf", "(internal/reflectlite.Value).Type", "(internal/reflectlite.Value).IsNil", "internal/reflectlite.TypeOf", "(internal/reflectlite.Value).Elem", "(internal/reflectlite.Value).Set"], unfollowed := true, recurses := true, named := ["loop.example/g00637/impl.errInvalid", "loop.example/g00637/impl.errNoHistory", "errors.errorType", "loop.example/g00637/impl.errNoRoom"], ifaces := true, apart := false, laid := [("errors.errorType", laid_errors_errorType), ("loop.example/g00637/impl.errInvalid", laid_loop_example_g00637_impl_errInvalid), ("loop.example/g00637/impl.errNoRoom", laid_loop_example_g00637_impl_errNoRoom), ("loop.example/g00637/impl.errNoHistory", laid_loop_example_g00637_impl_errNoHistory)] }
def FnLogSaid : Prop := fnLogRow.holds Tryz.pinned (OpenSpec.ofChange fnLogSpec)

/-- ITS FALSE NEIGHBOUR: 'it returns false'. Refute it at one input. -/
def fnLogWrong : ChangeSpec := { name := "fnLog", vars := ["loop.example/g00637/impl.errInvalid", "loop.example/g00637/impl.errNoHistory", "loop.example/g00637/impl.errNoRoom"], fn := fun _ => fun
  | [d1, d2, g1, g2, g3] => { results := [.lit (.bool false)], args := [d1, d2], vars := [g1, g2, g3] }
  | _ => none }
def FnLogWrongFalsely : Prop := fnLogRow.holds Tryz.pinned (OpenSpec.ofChange fnLogWrong)

/-- 'laws.FnRoll': WHATEVER THE INPUT: true; the input reads as it did. -/
def fnRollSpec : ChangeSpec := { name := "fnRoll", vars := ["loop.example/g00637/impl.errInvalid", "loop.example/g00637/impl.errNoHistory", "loop.example/g00637/impl.errNoRoom"], fn := fun _ => fun
  | [d1, d2, g1, g2, g3] => { results := [.lit (.bool true)], args := [d1, d2], vars := [g1, g2, g3] }
  | _ => none }
def fnRollRow : OpenClaim := { program := "ytloaeglmngcenaagreatdoor", sum := "c7f99a7fd9badbe1ba6423fafc3421b169292cbe7db10108ae28ca2b124fdb15", func := "loop.example/g00637/laws.FnRoll", spec := "fnRoll", inPlace := ["internal/reflectlite.ValueOf", "(internal/reflectlite.Value).Type", "(internal/reflectlite.Value).IsNil", "internal/reflectlite.TypeOf", "(internal/reflectlite.Value).Elem", "(internal/reflectlite.Value).Set", "slices.overlaps[int64]"], unfollowed := true, recurses := true, named := ["loop.example/g00637/impl.errInvalid", "loop.example/g00637/impl.errNoHistory", "errors.errorType", "loop.example/g00637/impl.errNoRoom"], ifaces := true, apart := false, laid := [("errors.errorType", laid_errors_errorType), ("loop.example/g00637/impl.errInvalid", laid_loop_example_g00637_impl_errInvalid), ("loop.example/g00637/impl.errNoRoom", laid_loop_example_g00637_impl_errNoRoom), ("loop.example/g00637/impl.errNoHistory", laid_loop_example_g00637_impl_errNoHistory)] }
def FnRollSaid : Prop := fnRollRow.holds Tryz.pinned (OpenSpec.ofChange fnRollSpec)

/-- ITS FALSE NEIGHBOUR: 'it returns false'. Refute it at one input. -/
def fnRollWrong : ChangeSpec := { name := "fnRoll", vars := ["loop.example/g00637/impl.errInvalid", "loop.example/g00637/impl.errNoHistory", "loop.example/g00637/impl.errNoRoom"], fn := fun _ => fun
  | [d1, d2, g1, g2, g3] => { results := [.lit (.bool false)], args := [d1, d2], vars := [g1, g2, g3] }
  | _ => none }
def FnRollWrongFalsely : Prop := fnRollRow.holds Tryz.pinned (OpenSpec.ofChange fnRollWrong)

/-- 'laws.FnPast': WHATEVER THE INPUT: true; the input reads as it did. -/
def fnPastSpec : ChangeSpec := { name := "fnPast", vars := ["loop.example/g00637/impl.errInvalid", "loop.example/g00637/impl.errNoHistory", "loop.example/g00637/impl.errNoRoom"], fn := fun _ => fun
  | [d1, d2, g1, g2, g3] => { results := [.lit (.bool true)], args := [d1, d2], vars := [g1, g2, g3] }
  | _ => none }
def fnPastRow : OpenClaim := { program := "ytloaeglmngcenaagreatdoor", sum := "c7f99a7fd9badbe1ba6423fafc3421b169292cbe7db10108ae28ca2b124fdb15", func := "loop.example/g00637/laws.FnPast", spec := "fnPast", inPlace := ["internal/reflectlite.ValueOf", "(internal/reflectlite.Value).Type", "(internal/reflectlite.Value).IsNil", "internal/reflectlite.TypeOf", "(internal/reflectlite.Value).Elem", "(internal/reflectlite.Value).Set", "slices.overlaps[int64]"], unfollowed := true, recurses := true, named := ["loop.example/g00637/impl.errInvalid", "loop.example/g00637/impl.errNoHistory", "errors.errorType", "loop.example/g00637/impl.errNoRoom"], ifaces := true, apart := false, laid := [("errors.errorType", laid_errors_errorType), ("loop.example/g00637/impl.errInvalid", laid_loop_example_g00637_impl_errInvalid), ("loop.example/g00637/impl.errNoRoom", laid_loop_example_g00637_impl_errNoRoom), ("loop.example/g00637/impl.errNoHistory", laid_loop_example_g00637_impl_errNoHistory)] }
def FnPastSaid : Prop := fnPastRow.holds Tryz.pinned (OpenSpec.ofChange fnPastSpec)

/-- ITS FALSE NEIGHBOUR: 'it returns false'. Refute it at one input. -/
def fnPastWrong : ChangeSpec := { name := "fnPast", vars := ["loop.example/g00637/impl.errInvalid", "loop.example/g00637/impl.errNoHistory", "loop.example/g00637/impl.errNoRoom"], fn := fun _ => fun
  | [d1, d2, g1, g2, g3] => { results := [.lit (.bool false)], args := [d1, d2], vars := [g1, g2, g3] }
  | _ => none }
def FnPastWrongFalsely : Prop := fnPastRow.holds Tryz.pinned (OpenSpec.ofChange fnPastWrong)

/-- 'laws.FnExactCkptPut': WHATEVER THE INPUT: true; the input reads as it did. -/
def fnExactCkptPutSpec : ChangeSpec := { name := "fnExactCkptPut", fn := fun _ => fun
  | [d1, d2, d3] => { results := [.lit (.bool true)], args := [d1, d2, d3] }
  | _ => none }
def fnExactCkptPutRow : OpenClaim := { program := "ytloaeglmngcenaagreatdoor", sum := "c7f99a7fd9badbe1ba6423fafc3421b169292cbe7db10108ae28ca2b124fdb15", func := "loop.example/g00637/laws.FnExactCkptPut", spec := "fnExactCkptPut", inPlace := ["internal/reflectlite.ValueOf", "(internal/reflectlite.Value).Type", "(internal/reflectlite.Value).IsNil", "internal/reflectlite.TypeOf", "(internal/reflectlite.Value).Elem", "(internal/reflectlite.Value).Set", "slices.overlaps[int64]"], unfollowed := true, recurses := true, named := ["errors.errorType"], apart := false, laid := [("errors.errorType", laid_errors_errorType)] }
def FnExactCkptPutSaid : Prop := fnExactCkptPutRow.holds Tryz.pinned (OpenSpec.ofChange fnExactCkptPutSpec)

/-- ITS FALSE NEIGHBOUR: 'it returns false'. Refute it at one input. -/
def fnExactCkptPutWrong : ChangeSpec := { name := "fnExactCkptPut", fn := fun _ => fun
  | [d1, d2, d3] => { results := [.lit (.bool false)], args := [d1, d2, d3] }
  | _ => none }
def FnExactCkptPutWrongFalsely : Prop := fnExactCkptPutRow.holds Tryz.pinned (OpenSpec.ofChange fnExactCkptPutWrong)

/-- 'laws.FnExactMountWith': WHATEVER THE INPUT: true; the input reads as it did. -/
def fnExactMountWithSpec : ChangeSpec := { name := "fnExactMountWith", vars := ["loop.example/g00637/impl.errInvalid", "loop.example/g00637/impl.errNoHistory", "loop.example/g00637/impl.errNoRoom"], fn := fun _ => fun
  | [d1, d2, g1, g2, g3] => { results := [.lit (.bool true)], args := [d1, d2], vars := [g1, g2, g3] }
  | _ => none }
def fnExactMountWithRow : OpenClaim := { program := "ytloaeglmngcenaagreatdoor", sum := "c7f99a7fd9badbe1ba6423fafc3421b169292cbe7db10108ae28ca2b124fdb15", func := "loop.example/g00637/laws.FnExactMountWith", spec := "fnExactMountWith", inPlace := ["internal/reflectlite.ValueOf", "(internal/reflectlite.Value).Type", "(internal/reflectlite.Value).IsNil", "internal/reflectlite.TypeOf", "(internal/reflectlite.Value).Elem", "(internal/reflectlite.Value).Set"], unfollowed := true, recurses := true, named := ["errors.errorType", "loop.example/g00637/impl.errInvalid", "loop.example/g00637/impl.errNoHistory", "loop.example/g00637/impl.errNoRoom"], ifaces := true, apart := false, laid := [("errors.errorType", laid_errors_errorType), ("loop.example/g00637/impl.errInvalid", laid_loop_example_g00637_impl_errInvalid), ("loop.example/g00637/impl.errNoRoom", laid_loop_example_g00637_impl_errNoRoom), ("loop.example/g00637/impl.errNoHistory", laid_loop_example_g00637_impl_errNoHistory)] }
def FnExactMountWithSaid : Prop := fnExactMountWithRow.holds Tryz.pinned (OpenSpec.ofChange fnExactMountWithSpec)

/-- ITS FALSE NEIGHBOUR: 'it returns false'. Refute it at one input. -/
def fnExactMountWithWrong : ChangeSpec := { name := "fnExactMountWith", vars := ["loop.example/g00637/impl.errInvalid", "loop.example/g00637/impl.errNoHistory", "loop.example/g00637/impl.errNoRoom"], fn := fun _ => fun
  | [d1, d2, g1, g2, g3] => { results := [.lit (.bool false)], args := [d1, d2], vars := [g1, g2, g3] }
  | _ => none }
def FnExactMountWithWrongFalsely : Prop := fnExactMountWithRow.holds Tryz.pinned (OpenSpec.ofChange fnExactMountWithWrong)

/- THE SECOND FORM. 'bulk': how many values and letters a reading holds, each counted each time it is reached (what is shared counts as often as it is met; a slice's spare places count too). A statement '..UptoSaid' is the law's where the arguments, and the package variables that the reading takes, are together of bulk at most 1048576: NARROWER than '..Said'. Prove '..Said' where nothing that the law and all that it calls make is longer than what came in: it says more and counts as full. Else prove '..UptoSaid'. A law counts once. -/
mutual
def uptoBulk {H : Type} : DataW H → Nat
  | .lit (.string bytes) => bytes.length + 1
  | .lit _ => 1
  | .nil => 1
  | .ptr d => uptoBulk d + 1
  | .slice elems spare => uptoBulkAll elems + uptoBulkAll spare + 1
  | .agg parts => uptoBulkAll parts + 1
  | .iface _ d => uptoBulk d + 1
  | .map entries => uptoBulkEntries entries + 1
  | .held _ => 1
def uptoBulkAll {H : Type} : List (DataW H) → Nat
  | [] => 0
  | d :: r => uptoBulk d + uptoBulkAll r
def uptoBulkEntries {H : Type} : List (Lit × DataW H) → Nat
  | [] => 0
  | x :: r => uptoBulkEntry x + uptoBulkEntries r
def uptoBulkEntry {H : Type} : Lit × DataW H → Nat
  | (.string bytes, d) => bytes.length + uptoBulk d + 1
  | (_, d) => uptoBulk d + 1
 end
def uptoSmall : (H : Type) → List (DataW H) → Bool := fun _ ds => decide (uptoBulkAll ds ≤ 1048576)
def OpenSpec.upto (s : _root_.Go.ChangeSpec) : _root_.Go.OpenSpec := { _root_.Go.OpenSpec.ofChange s with cond := some uptoSmall }

/-- 'laws.FnLog', WHERE WHAT IT READS IS OF BULK AT MOST 1048576: true; the input reads as it did. -/
def fnLogUptoRow : OpenClaim := { program := "ytloaeglmngcenaagreatdoor", sum := "c7f99a7fd9badbe1ba6423fafc3421b169292cbe7db10108ae28ca2b124fdb15", func := "loop.example/g00637/laws.FnLog", spec := "fnLog", inPlace := ["internal/reflectlite.ValueOf", "(internal/reflectlite.Value).Type", "(internal/reflectlite.Value).IsNil", "internal/reflectlite.TypeOf", "(internal/reflectlite.Value).Elem", "(internal/reflectlite.Value).Set"], unfollowed := true, recurses := true, named := ["loop.example/g00637/impl.errInvalid", "loop.example/g00637/impl.errNoHistory", "errors.errorType", "loop.example/g00637/impl.errNoRoom"], ifaces := true, apart := false, laid := [("errors.errorType", laid_errors_errorType), ("loop.example/g00637/impl.errInvalid", laid_loop_example_g00637_impl_errInvalid), ("loop.example/g00637/impl.errNoRoom", laid_loop_example_g00637_impl_errNoRoom), ("loop.example/g00637/impl.errNoHistory", laid_loop_example_g00637_impl_errNoHistory)], narrowed := true }
def FnLogUptoSaid : Prop := fnLogUptoRow.holds Tryz.pinned (OpenSpec.upto fnLogSpec)

/-- 'laws.FnRoll', WHERE WHAT IT READS IS OF BULK AT MOST 1048576: true; the input reads as it did. -/
def fnRollUptoRow : OpenClaim := { program := "ytloaeglmngcenaagreatdoor", sum := "c7f99a7fd9badbe1ba6423fafc3421b169292cbe7db10108ae28ca2b124fdb15", func := "loop.example/g00637/laws.FnRoll", spec := "fnRoll", inPlace := ["internal/reflectlite.ValueOf", "(internal/reflectlite.Value).Type", "(internal/reflectlite.Value).IsNil", "internal/reflectlite.TypeOf", "(internal/reflectlite.Value).Elem", "(internal/reflectlite.Value).Set", "slices.overlaps[int64]"], unfollowed := true, recurses := true, named := ["loop.example/g00637/impl.errInvalid", "loop.example/g00637/impl.errNoHistory", "errors.errorType", "loop.example/g00637/impl.errNoRoom"], ifaces := true, apart := false, laid := [("errors.errorType", laid_errors_errorType), ("loop.example/g00637/impl.errInvalid", laid_loop_example_g00637_impl_errInvalid), ("loop.example/g00637/impl.errNoRoom", laid_loop_example_g00637_impl_errNoRoom), ("loop.example/g00637/impl.errNoHistory", laid_loop_example_g00637_impl_errNoHistory)], narrowed := true }
def FnRollUptoSaid : Prop := fnRollUptoRow.holds Tryz.pinned (OpenSpec.upto fnRollSpec)

/-- 'laws.FnPast', WHERE WHAT IT READS IS OF BULK AT MOST 1048576: true; the input reads as it did. -/
def fnPastUptoRow : OpenClaim := { program := "ytloaeglmngcenaagreatdoor", sum := "c7f99a7fd9badbe1ba6423fafc3421b169292cbe7db10108ae28ca2b124fdb15", func := "loop.example/g00637/laws.FnPast", spec := "fnPast", inPlace := ["internal/reflectlite.ValueOf", "(internal/reflectlite.Value).Type", "(internal/reflectlite.Value).IsNil", "internal/reflectlite.TypeOf", "(internal/reflectlite.Value).Elem", "(internal/reflectlite.Value).Set", "slices.overlaps[int64]"], unfollowed := true, recurses := true, named := ["loop.example/g00637/impl.errInvalid", "loop.example/g00637/impl.errNoHistory", "errors.errorType", "loop.example/g00637/impl.errNoRoom"], ifaces := true, apart := false, laid := [("errors.errorType", laid_errors_errorType), ("loop.example/g00637/impl.errInvalid", laid_loop_example_g00637_impl_errInvalid), ("loop.example/g00637/impl.errNoRoom", laid_loop_example_g00637_impl_errNoRoom), ("loop.example/g00637/impl.errNoHistory", laid_loop_example_g00637_impl_errNoHistory)], narrowed := true }
def FnPastUptoSaid : Prop := fnPastUptoRow.holds Tryz.pinned (OpenSpec.upto fnPastSpec)

/-- 'laws.FnExactCkptPut', WHERE WHAT IT READS IS OF BULK AT MOST 1048576: true; the input reads as it did. -/
def fnExactCkptPutUptoRow : OpenClaim := { program := "ytloaeglmngcenaagreatdoor", sum := "c7f99a7fd9badbe1ba6423fafc3421b169292cbe7db10108ae28ca2b124fdb15", func := "loop.example/g00637/laws.FnExactCkptPut", spec := "fnExactCkptPut", inPlace := ["internal/reflectlite.ValueOf", "(internal/reflectlite.Value).Type", "(internal/reflectlite.Value).IsNil", "internal/reflectlite.TypeOf", "(internal/reflectlite.Value).Elem", "(internal/reflectlite.Value).Set", "slices.overlaps[int64]"], unfollowed := true, recurses := true, named := ["errors.errorType"], apart := false, laid := [("errors.errorType", laid_errors_errorType)], narrowed := true }
def FnExactCkptPutUptoSaid : Prop := fnExactCkptPutUptoRow.holds Tryz.pinned (OpenSpec.upto fnExactCkptPutSpec)

/-- 'laws.FnExactMountWith', WHERE WHAT IT READS IS OF BULK AT MOST 1048576: true; the input reads as it did. -/
def fnExactMountWithUptoRow : OpenClaim := { program := "ytloaeglmngcenaagreatdoor", sum := "c7f99a7fd9badbe1ba6423fafc3421b169292cbe7db10108ae28ca2b124fdb15", func := "loop.example/g00637/laws.FnExactMountWith", spec := "fnExactMountWith", inPlace := ["internal/reflectlite.ValueOf", "(internal/reflectlite.Value).Type", "(internal/reflectlite.Value).IsNil", "internal/reflectlite.TypeOf", "(internal/reflectlite.Value).Elem", "(internal/reflectlite.Value).Set"], unfollowed := true, recurses := true, named := ["errors.errorType", "loop.example/g00637/impl.errInvalid", "loop.example/g00637/impl.errNoHistory", "loop.example/g00637/impl.errNoRoom"], ifaces := true, apart := false, laid := [("errors.errorType", laid_errors_errorType), ("loop.example/g00637/impl.errInvalid", laid_loop_example_g00637_impl_errInvalid), ("loop.example/g00637/impl.errNoRoom", laid_loop_example_g00637_impl_errNoRoom), ("loop.example/g00637/impl.errNoHistory", laid_loop_example_g00637_impl_errNoHistory)], narrowed := true }
def FnExactMountWithUptoSaid : Prop := fnExactMountWithUptoRow.holds Tryz.pinned (OpenSpec.upto fnExactMountWithSpec)

end Rows
end Go.Proofs.YtloaeglmngcenaaGreatDoor
