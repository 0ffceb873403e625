/-
  NARROWER THAN 'FOR EVERY INPUT', by the rows' own cells (each row's printed sentence says how): FnExactPlaces: laid · FnExactAppend: ifaces, laid · FnExactTorn: ifaces, laid.
  DERIVED. THE GIVEN ROWS OF THIS SEAT. 3 by the template 'for every input the law returns true; each argument reads behind the call as it read before'; 0 by the template 'total and deterministic' (their statements: YtimlaeicbnnbdaaDoorTotals.lean).
  GIVEN WITH THE SEED: the statements are not yours to turn. If you find one false, say at which input.
  Laid BY PROGRAM, IN A SANDBOX (cutbox-rows.mjs): the forced cells as the released guide's own fill.sh prints them over the translation a11d2552c143b7ac… (all of the seat's roots in one cut). By AI agents, Wed Nov 11 2026. No macro, syntax, notation, axiom, sorry.
-/
import Derived.Test.YtimlaeicbnnbdaaDoorChecked
import GoSem.Claim
import GoSem.ClaimJoined
import GoSem.ClaimMapViews
import Derived.JoinedTies
import Derived.KernelRfl
namespace Go.Proofs.YtimlaeicbnnbdaaDoor
/- THE CELL 'sum', in the pinned program and in every row, IS THE sha256 OF THE DUMP (.gsa) THAT YtimlaeicbnnbdaaDoorProg.lean LOADS. Nothing in Lean hashes anything: it is a label: what it is worth is what the hold of that sum in a sandbox is worth. -/
noncomputable def Tryd.pinned : Pinned := { name := "ytimlaeicbnnbdaadoor", sum := "a11d2552c143b7acedea8a305e6188acc28e99ca8762795a4dbec207580f8a0b", checked := Tryd.checked }
namespace Rows
def none {H : Type} : Left H := { results := [], args := [] }

/- WHAT THE LISTED PACKAGE-LEVEL VARIABLES READ AS WHEN THE CALL BEGINS. Each datum BY PROGRAM (the guide's laid-datum.mjs) off the statement by which the dump's own 'gosem.cut.vars' lays the variable. In a bare row this is a premise. The card (YtimlaeicbnnbdaaDoorCards.lean) ties it to the program's text. -/
def laid_errors_errorType {H : Type} : DataW H := .iface "internal/reflectlite.rtype" (.agg [.ptr (.lit (.string [101, 114, 114, 111, 114]))])
def laid_loop_example_g00637_impl_errInvalid {H : Type} : DataW H := .iface "*errors.errorString" (.ptr (.agg [.lit (.string [97, 110, 32, 97, 114, 103, 117, 109, 101, 110, 116, 32, 105, 115, 32, 105, 110, 118, 97, 108, 105, 100])]))
def laid_loop_example_g00637_impl_errNoRoom {H : Type} : DataW H := .iface "*errors.errorString" (.ptr (.agg [.lit (.string [116, 104, 101, 114, 101, 32, 105, 115, 32, 110, 111, 32, 98, 108, 111, 99, 107, 32, 102, 111, 114, 32, 116, 104, 101, 32, 110, 101, 120, 116, 32, 112, 97, 103, 101])]))
def laid_loop_example_g00637_impl_errNoHistory {H : Type} : DataW H := .iface "*errors.errorString" (.ptr (.agg [.lit (.string [116, 104, 101, 32, 114, 101, 99, 111, 114, 100, 115, 32, 97, 114, 101, 32, 110, 111, 32, 118, 97, 108, 105, 100, 32, 104, 105, 115, 116, 111, 114, 121])]))

/-- 'laws.FnExactPlaces': WHATEVER THE INPUT: true; the input reads as it did. -/
def fnExactPlacesSpec : ChangeSpec := { name := "fnExactPlaces", fn := fun _ => fun
  | [d1, d2] => { results := [.lit (.bool true)], args := [d1, d2] }
  | _ => none }
def fnExactPlacesRow : OpenClaim := { program := "ytimlaeicbnnbdaadoor", sum := "a11d2552c143b7acedea8a305e6188acc28e99ca8762795a4dbec207580f8a0b", func := "loop.example/g00637/laws.FnExactPlaces", spec := "fnExactPlaces", inPlace := ["internal/reflectlite.ValueOf", "(internal/reflectlite.Value).Type", "(internal/reflectlite.Value).IsNil", "internal/reflectlite.TypeOf", "(internal/reflectlite.Value).Elem", "(internal/reflectlite.Value).Set"], unfollowed := true, recurses := true, named := ["errors.errorType"], apart := false, laid := [("errors.errorType", laid_errors_errorType)] }
def FnExactPlacesSaid : Prop := fnExactPlacesRow.holds Tryd.pinned (OpenSpec.ofChange fnExactPlacesSpec)

/-- ITS FALSE NEIGHBOUR: 'it returns false'. Refute it at one input. -/
def fnExactPlacesWrong : ChangeSpec := { name := "fnExactPlaces", fn := fun _ => fun
  | [d1, d2] => { results := [.lit (.bool false)], args := [d1, d2] }
  | _ => none }
def FnExactPlacesWrongFalsely : Prop := fnExactPlacesRow.holds Tryd.pinned (OpenSpec.ofChange fnExactPlacesWrong)

/-- 'laws.FnExactAppend': WHATEVER THE INPUT: true; the input reads as it did. -/
def fnExactAppendSpec : ChangeSpec := { name := "fnExactAppend", vars := ["loop.example/g00637/impl.errInvalid", "loop.example/g00637/impl.errNoRoom", "loop.example/g00637/impl.errNoHistory"], fn := fun _ => fun
  | [d1, d2, d3, g1, g2, g3] => { results := [.lit (.bool true)], args := [d1, d2, d3], vars := [g1, g2, g3] }
  | _ => none }
def fnExactAppendRow : OpenClaim := { program := "ytimlaeicbnnbdaadoor", sum := "a11d2552c143b7acedea8a305e6188acc28e99ca8762795a4dbec207580f8a0b", func := "loop.example/g00637/laws.FnExactAppend", spec := "fnExactAppend", inPlace := ["internal/reflectlite.TypeOf"], unfollowed := true, recurses := true, named := ["loop.example/g00637/impl.errInvalid", "loop.example/g00637/impl.errNoRoom", "loop.example/g00637/impl.errNoHistory"], ifaces := true, apart := false, laid := [("loop.example/g00637/impl.errInvalid", laid_loop_example_g00637_impl_errInvalid), ("loop.example/g00637/impl.errNoRoom", laid_loop_example_g00637_impl_errNoRoom), ("loop.example/g00637/impl.errNoHistory", laid_loop_example_g00637_impl_errNoHistory)] }
def FnExactAppendSaid : Prop := fnExactAppendRow.holds Tryd.pinned (OpenSpec.ofChange fnExactAppendSpec)

/-- ITS FALSE NEIGHBOUR: 'it returns false'. Refute it at one input. -/
def fnExactAppendWrong : ChangeSpec := { name := "fnExactAppend", vars := ["loop.example/g00637/impl.errInvalid", "loop.example/g00637/impl.errNoRoom", "loop.example/g00637/impl.errNoHistory"], fn := fun _ => fun
  | [d1, d2, d3, g1, g2, g3] => { results := [.lit (.bool false)], args := [d1, d2, d3], vars := [g1, g2, g3] }
  | _ => none }
def FnExactAppendWrongFalsely : Prop := fnExactAppendRow.holds Tryd.pinned (OpenSpec.ofChange fnExactAppendWrong)

/-- 'laws.FnExactTorn': WHATEVER THE INPUT: true; the input reads as it did. -/
def fnExactTornSpec : ChangeSpec := { name := "fnExactTorn", vars := ["loop.example/g00637/impl.errInvalid", "loop.example/g00637/impl.errNoRoom", "loop.example/g00637/impl.errNoHistory"], fn := fun _ => fun
  | [d1, d2, g1, g2, g3] => { results := [.lit (.bool true)], args := [d1, d2], vars := [g1, g2, g3] }
  | _ => none }
def fnExactTornRow : OpenClaim := { program := "ytimlaeicbnnbdaadoor", sum := "a11d2552c143b7acedea8a305e6188acc28e99ca8762795a4dbec207580f8a0b", func := "loop.example/g00637/laws.FnExactTorn", spec := "fnExactTorn", inPlace := ["internal/reflectlite.TypeOf"], unfollowed := true, recurses := true, named := ["loop.example/g00637/impl.errInvalid", "loop.example/g00637/impl.errNoRoom", "loop.example/g00637/impl.errNoHistory"], ifaces := true, apart := false, laid := [("loop.example/g00637/impl.errInvalid", laid_loop_example_g00637_impl_errInvalid), ("loop.example/g00637/impl.errNoRoom", laid_loop_example_g00637_impl_errNoRoom), ("loop.example/g00637/impl.errNoHistory", laid_loop_example_g00637_impl_errNoHistory)] }
def FnExactTornSaid : Prop := fnExactTornRow.holds Tryd.pinned (OpenSpec.ofChange fnExactTornSpec)

/-- ITS FALSE NEIGHBOUR: 'it returns false'. Refute it at one input. -/
def fnExactTornWrong : ChangeSpec := { name := "fnExactTorn", vars := ["loop.example/g00637/impl.errInvalid", "loop.example/g00637/impl.errNoRoom", "loop.example/g00637/impl.errNoHistory"], fn := fun _ => fun
  | [d1, d2, g1, g2, g3] => { results := [.lit (.bool false)], args := [d1, d2], vars := [g1, g2, g3] }
  | _ => none }
def FnExactTornWrongFalsely : Prop := fnExactTornRow.holds Tryd.pinned (OpenSpec.ofChange fnExactTornWrong)

/- THE SECOND FORM. 'bulk': how many values and letters a reading holds, each counted each time it is reached (what is shared counts as often as it is met; a slice's spare places count too). A statement '..UptoSaid' is the law's where the arguments, and the package variables that the reading takes, are together of bulk at most 1048576: NARROWER than '..Said'. Prove '..Said' where nothing that the law and all that it calls make is longer than what came in: it says more and counts as full. Else prove '..UptoSaid'. A law counts once. -/
mutual
def uptoBulk {H : Type} : DataW H → Nat
  | .lit (.string bytes) => bytes.length + 1
  | .lit _ => 1
  | .nil => 1
  | .ptr d => uptoBulk d + 1
  | .slice elems spare => uptoBulkAll elems + uptoBulkAll spare + 1
  | .agg parts => uptoBulkAll parts + 1
  | .iface _ d => uptoBulk d + 1
  | .map entries => uptoBulkEntries entries + 1
  | .held _ => 1
def uptoBulkAll {H : Type} : List (DataW H) → Nat
  | [] => 0
  | d :: r => uptoBulk d + uptoBulkAll r
def uptoBulkEntries {H : Type} : List (Lit × DataW H) → Nat
  | [] => 0
  | x :: r => uptoBulkEntry x + uptoBulkEntries r
def uptoBulkEntry {H : Type} : Lit × DataW H → Nat
  | (.string bytes, d) => bytes.length + uptoBulk d + 1
  | (_, d) => uptoBulk d + 1
 end
def uptoSmall : (H : Type) → List (DataW H) → Bool := fun _ ds => decide (uptoBulkAll ds ≤ 1048576)
def OpenSpec.upto (s : _root_.Go.ChangeSpec) : _root_.Go.OpenSpec := { _root_.Go.OpenSpec.ofChange s with cond := some uptoSmall }

/-- 'laws.FnExactPlaces', WHERE WHAT IT READS IS OF BULK AT MOST 1048576: true; the input reads as it did. -/
def fnExactPlacesUptoRow : OpenClaim := { program := "ytimlaeicbnnbdaadoor", sum := "a11d2552c143b7acedea8a305e6188acc28e99ca8762795a4dbec207580f8a0b", func := "loop.example/g00637/laws.FnExactPlaces", spec := "fnExactPlaces", inPlace := ["internal/reflectlite.ValueOf", "(internal/reflectlite.Value).Type", "(internal/reflectlite.Value).IsNil", "internal/reflectlite.TypeOf", "(internal/reflectlite.Value).Elem", "(internal/reflectlite.Value).Set"], unfollowed := true, recurses := true, named := ["errors.errorType"], apart := false, laid := [("errors.errorType", laid_errors_errorType)], narrowed := true }
def FnExactPlacesUptoSaid : Prop := fnExactPlacesUptoRow.holds Tryd.pinned (OpenSpec.upto fnExactPlacesSpec)

/-- 'laws.FnExactAppend', WHERE WHAT IT READS IS OF BULK AT MOST 1048576: true; the input reads as it did. -/
def fnExactAppendUptoRow : OpenClaim := { program := "ytimlaeicbnnbdaadoor", sum := "a11d2552c143b7acedea8a305e6188acc28e99ca8762795a4dbec207580f8a0b", func := "loop.example/g00637/laws.FnExactAppend", spec := "fnExactAppend", inPlace := ["internal/reflectlite.TypeOf"], unfollowed := true, recurses := true, named := ["loop.example/g00637/impl.errInvalid", "loop.example/g00637/impl.errNoRoom", "loop.example/g00637/impl.errNoHistory"], ifaces := true, apart := false, laid := [("loop.example/g00637/impl.errInvalid", laid_loop_example_g00637_impl_errInvalid), ("loop.example/g00637/impl.errNoRoom", laid_loop_example_g00637_impl_errNoRoom), ("loop.example/g00637/impl.errNoHistory", laid_loop_example_g00637_impl_errNoHistory)], narrowed := true }
def FnExactAppendUptoSaid : Prop := fnExactAppendUptoRow.holds Tryd.pinned (OpenSpec.upto fnExactAppendSpec)

/-- 'laws.FnExactTorn', WHERE WHAT IT READS IS OF BULK AT MOST 1048576: true; the input reads as it did. -/
def fnExactTornUptoRow : OpenClaim := { program := "ytimlaeicbnnbdaadoor", sum := "a11d2552c143b7acedea8a305e6188acc28e99ca8762795a4dbec207580f8a0b", func := "loop.example/g00637/laws.FnExactTorn", spec := "fnExactTorn", inPlace := ["internal/reflectlite.TypeOf"], unfollowed := true, recurses := true, named := ["loop.example/g00637/impl.errInvalid", "loop.example/g00637/impl.errNoRoom", "loop.example/g00637/impl.errNoHistory"], ifaces := true, apart := false, laid := [("loop.example/g00637/impl.errInvalid", laid_loop_example_g00637_impl_errInvalid), ("loop.example/g00637/impl.errNoRoom", laid_loop_example_g00637_impl_errNoRoom), ("loop.example/g00637/impl.errNoHistory", laid_loop_example_g00637_impl_errNoHistory)], narrowed := true }
def FnExactTornUptoSaid : Prop := fnExactTornUptoRow.holds Tryd.pinned (OpenSpec.upto fnExactTornSpec)

end Rows
end Go.Proofs.YtimlaeicbnnbdaaDoor
