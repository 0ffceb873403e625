/-
  NARROWER THAN 'FOR EVERY INPUT', by the rows' own cells (each row's printed sentence says how): FnExactDeskRun: ifaces, laid · FnExactDeskFault: ifaces, laid · FnExactDeskWords: ifaces, laid · FnExactWear: ifaces, laid.
  DERIVED. THE GIVEN ROWS OF THIS SEAT. 4 by the template 'for every input the law returns true; each argument reads behind the call as it read before'; 0 by the template 'total and deterministic' (their statements: YtdeagcdafcfimaaGreatDoorTotals.lean).
  GIVEN WITH THE SEED: the statements are not yours to turn. If you find one false, say at which input.
  Laid BY PROGRAM, IN A SANDBOX (cutbox-rows.mjs): the forced cells as the released guide's own fill.sh prints them over the translation 68d63a6c7ff97873… (all of the seat's roots in one cut). By AI agents, Wed Nov 11 2026. No macro, syntax, notation, axiom, sorry.
-/
import Derived.Test.YtdeagcdafcfimaaGreatDoorChecked
import GoSem.PinnedTables
import GoSem.Claim
import GoSem.ClaimJoined
import GoSem.ClaimMapViews
import Derived.JoinedTies
import Derived.KernelRfl
namespace Go.Proofs.YtdeagcdafcfimaaGreatDoor
/- THE CELL 'sum', in the pinned program and in every row, IS THE sha256 OF THE DUMP (.gsa) THAT YtdeagcdafcfimaaGreatDoorProg.lean LOADS. Nothing in Lean hashes anything: it is a label: what it is worth is what the hold of that sum in a sandbox is worth. -/
noncomputable def Tryz.pinned : Pinned := { name := "ytdeagcdafcfimaagreatdoor", sum := "68d63a6c7ff9787366c34a2c3b1e7bea8d97a96adadf23c66d3b668269a4c9ad", checked := Tryz.checked }
namespace Rows
def none {H : Type} : Left H := { results := [], args := [] }

/- WHAT THE LISTED PACKAGE-LEVEL VARIABLES READ AS WHEN THE CALL BEGINS. Each datum BY PROGRAM (the guide's laid-datum.mjs) off the statement by which the dump's own 'gosem.cut.vars' lays the variable. In a bare row this is a premise. The card (YtdeagcdafcfimaaGreatDoorCards.lean) ties it to the program's text. -/
def laid_math_bits_deBruijn32tab {H : Type} : DataW H := .agg [.lit (.int .u8 0), .lit (.int .u8 1), .lit (.int .u8 28), .lit (.int .u8 2), .lit (.int .u8 29), .lit (.int .u8 14), .lit (.int .u8 24), .lit (.int .u8 3), .lit (.int .u8 30), .lit (.int .u8 22), .lit (.int .u8 20), .lit (.int .u8 15), .lit (.int .u8 25), .lit (.int .u8 17), .lit (.int .u8 4), .lit (.int .u8 8), .lit (.int .u8 31), .lit (.int .u8 27), .lit (.int .u8 13), .lit (.int .u8 23), .lit (.int .u8 21), .lit (.int .u8 19), .lit (.int .u8 16), .lit (.int .u8 7), .lit (.int .u8 26), .lit (.int .u8 12), .lit (.int .u8 18), .lit (.int .u8 6), .lit (.int .u8 11), .lit (.int .u8 5), .lit (.int .u8 10), .lit (.int .u8 9)]
def laid_math_bits_deBruijn64tab {H : Type} : DataW H := .agg [.lit (.int .u8 0), .lit (.int .u8 1), .lit (.int .u8 56), .lit (.int .u8 2), .lit (.int .u8 57), .lit (.int .u8 49), .lit (.int .u8 28), .lit (.int .u8 3), .lit (.int .u8 61), .lit (.int .u8 58), .lit (.int .u8 42), .lit (.int .u8 50), .lit (.int .u8 38), .lit (.int .u8 29), .lit (.int .u8 17), .lit (.int .u8 4), .lit (.int .u8 62), .lit (.int .u8 47), .lit (.int .u8 59), .lit (.int .u8 36), .lit (.int .u8 45), .lit (.int .u8 43), .lit (.int .u8 51), .lit (.int .u8 22), .lit (.int .u8 53), .lit (.int .u8 39), .lit (.int .u8 33), .lit (.int .u8 30), .lit (.int .u8 24), .lit (.int .u8 18), .lit (.int .u8 12), .lit (.int .u8 5), .lit (.int .u8 63), .lit (.int .u8 55), .lit (.int .u8 48), .lit (.int .u8 27), .lit (.int .u8 60), .lit (.int .u8 41), .lit (.int .u8 37), .lit (.int .u8 16), .lit (.int .u8 46), .lit (.int .u8 35), .lit (.int .u8 44), .lit (.int .u8 21), .lit (.int .u8 52), .lit (.int .u8 32), .lit (.int .u8 23), .lit (.int .u8 11), .lit (.int .u8 54), .lit (.int .u8 26), .lit (.int .u8 40), .lit (.int .u8 15), .lit (.int .u8 34), .lit (.int .u8 20), .lit (.int .u8 31), .lit (.int .u8 10), .lit (.int .u8 25), .lit (.int .u8 14), .lit (.int .u8 19), .lit (.int .u8 9), .lit (.int .u8 13), .lit (.int .u8 8), .lit (.int .u8 7), .lit (.int .u8 6)]
def laid_internal_strconv_uint64pow10 {H : Type} : DataW H := .agg [.lit (.int .u64 1), .lit (.int .u64 10), .lit (.int .u64 100), .lit (.int .u64 1000), .lit (.int .u64 10000), .lit (.int .u64 100000), .lit (.int .u64 1000000), .lit (.int .u64 10000000), .lit (.int .u64 100000000), .lit (.int .u64 1000000000), .lit (.int .u64 10000000000), .lit (.int .u64 100000000000), .lit (.int .u64 1000000000000), .lit (.int .u64 10000000000000), .lit (.int .u64 100000000000000), .lit (.int .u64 1000000000000000), .lit (.int .u64 10000000000000000), .lit (.int .u64 100000000000000000), .lit (.int .u64 1000000000000000000), .lit (.int .u64 10000000000000000000)]
def laid_unicode_utf8_acceptRanges {H : Type} : DataW H := .agg [.agg [.lit (.int .u8 128), .lit (.int .u8 191)], .agg [.lit (.int .u8 160), .lit (.int .u8 191)], .agg [.lit (.int .u8 128), .lit (.int .u8 159)], .agg [.lit (.int .u8 144), .lit (.int .u8 191)], .agg [.lit (.int .u8 128), .lit (.int .u8 143)], .agg [.lit (.int .u8 0), .lit (.int .u8 0)], .agg [.lit (.int .u8 0), .lit (.int .u8 0)], .agg [.lit (.int .u8 0), .lit (.int .u8 0)], .agg [.lit (.int .u8 0), .lit (.int .u8 0)], .agg [.lit (.int .u8 0), .lit (.int .u8 0)], .agg [.lit (.int .u8 0), .lit (.int .u8 0)], .agg [.lit (.int .u8 0), .lit (.int .u8 0)], .agg [.lit (.int .u8 0), .lit (.int .u8 0)], .agg [.lit (.int .u8 0), .lit (.int .u8 0)], .agg [.lit (.int .u8 0), .lit (.int .u8 0)], .agg [.lit (.int .u8 0), .lit (.int .u8 0)]]
def laid_errors_errorType {H : Type} : DataW H := .iface "internal/reflectlite.rtype" (.agg [.ptr (.lit (.string [101, 114, 114, 111, 114]))])
def laid_loop_example_g00637_impl_errInvalid {H : Type} : DataW H := .iface "*errors.errorString" (.ptr (.agg [.lit (.string [97, 110, 32, 97, 114, 103, 117, 109, 101, 110, 116, 32, 105, 115, 32, 105, 110, 118, 97, 108, 105, 100])]))
def laid_loop_example_g00637_impl_errNoRoom {H : Type} : DataW H := .iface "*errors.errorString" (.ptr (.agg [.lit (.string [116, 104, 101, 114, 101, 32, 105, 115, 32, 110, 111, 32, 98, 108, 111, 99, 107, 32, 102, 111, 114, 32, 116, 104, 101, 32, 110, 101, 120, 116, 32, 112, 97, 103, 101])]))
def laid_loop_example_g00637_impl_errNoHistory {H : Type} : DataW H := .iface "*errors.errorString" (.ptr (.agg [.lit (.string [116, 104, 101, 32, 114, 101, 99, 111, 114, 100, 115, 32, 97, 114, 101, 32, 110, 111, 32, 118, 97, 108, 105, 100, 32, 104, 105, 115, 116, 111, 114, 121])]))
/-- One of Go's own tables, pinned by name: the form's constant. -/
def laid_unicode_utf8_first : DataW Unit := Go.Pinned.utf8First

/-- 'laws.FnExactDeskRun': WHATEVER THE INPUT: true; the input reads as it did. -/
def fnExactDeskRunSpec : ChangeSpec := { name := "fnExactDeskRun", vars := ["loop.example/g00637/impl.errInvalid", "loop.example/g00637/impl.errNoHistory", "loop.example/g00637/impl.errNoRoom"], fn := fun _ => fun
  | [d, g1, g2, g3] => { results := [.lit (.bool true)], args := [d], vars := [g1, g2, g3] }
  | _ => none }
def fnExactDeskRunRow : OpenClaim := { program := "ytdeagcdafcfimaagreatdoor", sum := "68d63a6c7ff9787366c34a2c3b1e7bea8d97a96adadf23c66d3b668269a4c9ad", func := "loop.example/g00637/laws.FnExactDeskRun", spec := "fnExactDeskRun", inPlace := ["internal/bytealg.IndexByteString", "internal/bytealg.IndexString", "internal/bytealg.CountString", "internal/reflectlite.ValueOf", "(internal/reflectlite.Value).Type", "(internal/reflectlite.Value).IsNil", "internal/reflectlite.TypeOf", "(internal/reflectlite.Value).Elem", "(internal/reflectlite.Value).Set", "slices.overlaps[int64]", "internal/abi.NoEscape", "internal/bytealg.MakeNoZero"], unfollowed := true, recurses := true, named := ["internal/bytealg.MaxLen", "unicode/utf8.first", "unicode/utf8.acceptRanges", "loop.example/g00637/impl.errInvalid", "loop.example/g00637/impl.errNoHistory", "errors.errorType", "loop.example/g00637/impl.errNoRoom", "internal/strconv.uint64pow10", "math/bits.deBruijn32tab", "math/bits.deBruijn64tab"], ifaces := true, apart := false, laid := [("math/bits.deBruijn32tab", laid_math_bits_deBruijn32tab), ("math/bits.deBruijn64tab", laid_math_bits_deBruijn64tab), ("internal/strconv.uint64pow10", laid_internal_strconv_uint64pow10), ("unicode/utf8.acceptRanges", laid_unicode_utf8_acceptRanges), ("errors.errorType", laid_errors_errorType), ("loop.example/g00637/impl.errInvalid", laid_loop_example_g00637_impl_errInvalid), ("loop.example/g00637/impl.errNoRoom", laid_loop_example_g00637_impl_errNoRoom), ("loop.example/g00637/impl.errNoHistory", laid_loop_example_g00637_impl_errNoHistory), ("unicode/utf8.first", laid_unicode_utf8_first)] }
def FnExactDeskRunSaid : Prop := fnExactDeskRunRow.holds Tryz.pinned (OpenSpec.ofChange fnExactDeskRunSpec)

/-- ITS FALSE NEIGHBOUR: 'it returns false'. Refute it at one input. -/
def fnExactDeskRunWrong : ChangeSpec := { name := "fnExactDeskRun", vars := ["loop.example/g00637/impl.errInvalid", "loop.example/g00637/impl.errNoHistory", "loop.example/g00637/impl.errNoRoom"], fn := fun _ => fun
  | [d, g1, g2, g3] => { results := [.lit (.bool false)], args := [d], vars := [g1, g2, g3] }
  | _ => none }
def FnExactDeskRunWrongFalsely : Prop := fnExactDeskRunRow.holds Tryz.pinned (OpenSpec.ofChange fnExactDeskRunWrong)

/-- 'laws.FnExactDeskFault': WHATEVER THE INPUT: true; the input reads as it did. -/
def fnExactDeskFaultSpec : ChangeSpec := { name := "fnExactDeskFault", vars := ["loop.example/g00637/impl.errInvalid", "loop.example/g00637/impl.errNoHistory", "loop.example/g00637/impl.errNoRoom"], fn := fun _ => fun
  | [d, g1, g2, g3] => { results := [.lit (.bool true)], args := [d], vars := [g1, g2, g3] }
  | _ => none }
def fnExactDeskFaultRow : OpenClaim := { program := "ytdeagcdafcfimaagreatdoor", sum := "68d63a6c7ff9787366c34a2c3b1e7bea8d97a96adadf23c66d3b668269a4c9ad", func := "loop.example/g00637/laws.FnExactDeskFault", spec := "fnExactDeskFault", inPlace := ["internal/bytealg.IndexByteString", "internal/bytealg.IndexString", "internal/bytealg.CountString", "internal/reflectlite.ValueOf", "(internal/reflectlite.Value).Type", "(internal/reflectlite.Value).IsNil", "internal/reflectlite.TypeOf", "(internal/reflectlite.Value).Elem", "(internal/reflectlite.Value).Set", "slices.overlaps[int64]", "internal/abi.NoEscape", "internal/bytealg.MakeNoZero"], unfollowed := true, recurses := true, named := ["internal/bytealg.MaxLen", "unicode/utf8.first", "unicode/utf8.acceptRanges", "loop.example/g00637/impl.errInvalid", "loop.example/g00637/impl.errNoHistory", "errors.errorType", "loop.example/g00637/impl.errNoRoom", "internal/strconv.uint64pow10", "math/bits.deBruijn32tab", "math/bits.deBruijn64tab"], ifaces := true, apart := false, laid := [("math/bits.deBruijn32tab", laid_math_bits_deBruijn32tab), ("math/bits.deBruijn64tab", laid_math_bits_deBruijn64tab), ("internal/strconv.uint64pow10", laid_internal_strconv_uint64pow10), ("unicode/utf8.acceptRanges", laid_unicode_utf8_acceptRanges), ("errors.errorType", laid_errors_errorType), ("loop.example/g00637/impl.errInvalid", laid_loop_example_g00637_impl_errInvalid), ("loop.example/g00637/impl.errNoRoom", laid_loop_example_g00637_impl_errNoRoom), ("loop.example/g00637/impl.errNoHistory", laid_loop_example_g00637_impl_errNoHistory), ("unicode/utf8.first", laid_unicode_utf8_first)] }
def FnExactDeskFaultSaid : Prop := fnExactDeskFaultRow.holds Tryz.pinned (OpenSpec.ofChange fnExactDeskFaultSpec)

/-- ITS FALSE NEIGHBOUR: 'it returns false'. Refute it at one input. -/
def fnExactDeskFaultWrong : ChangeSpec := { name := "fnExactDeskFault", vars := ["loop.example/g00637/impl.errInvalid", "loop.example/g00637/impl.errNoHistory", "loop.example/g00637/impl.errNoRoom"], fn := fun _ => fun
  | [d, g1, g2, g3] => { results := [.lit (.bool false)], args := [d], vars := [g1, g2, g3] }
  | _ => none }
def FnExactDeskFaultWrongFalsely : Prop := fnExactDeskFaultRow.holds Tryz.pinned (OpenSpec.ofChange fnExactDeskFaultWrong)

/-- 'laws.FnExactDeskWords': WHATEVER THE INPUT: true; the input reads as it did. -/
def fnExactDeskWordsSpec : ChangeSpec := { name := "fnExactDeskWords", vars := ["loop.example/g00637/impl.errInvalid", "loop.example/g00637/impl.errNoHistory", "loop.example/g00637/impl.errNoRoom"], fn := fun _ => fun
  | [g1, g2, g3] => { results := [.lit (.bool true)], args := [], vars := [g1, g2, g3] }
  | _ => none }
def fnExactDeskWordsRow : OpenClaim := { program := "ytdeagcdafcfimaagreatdoor", sum := "68d63a6c7ff9787366c34a2c3b1e7bea8d97a96adadf23c66d3b668269a4c9ad", func := "loop.example/g00637/laws.FnExactDeskWords", spec := "fnExactDeskWords", inPlace := ["internal/reflectlite.ValueOf", "(internal/reflectlite.Value).Type", "(internal/reflectlite.Value).IsNil", "internal/reflectlite.TypeOf", "(internal/reflectlite.Value).Elem", "(internal/reflectlite.Value).Set", "slices.overlaps[int64]", "internal/abi.NoEscape", "internal/bytealg.MakeNoZero"], unfollowed := true, recurses := true, named := ["loop.example/g00637/impl.errInvalid", "loop.example/g00637/impl.errNoHistory", "errors.errorType", "loop.example/g00637/impl.errNoRoom", "internal/strconv.uint64pow10", "math/bits.deBruijn32tab", "math/bits.deBruijn64tab"], ifaces := true, apart := false, laid := [("math/bits.deBruijn32tab", laid_math_bits_deBruijn32tab), ("math/bits.deBruijn64tab", laid_math_bits_deBruijn64tab), ("internal/strconv.uint64pow10", laid_internal_strconv_uint64pow10), ("errors.errorType", laid_errors_errorType), ("loop.example/g00637/impl.errInvalid", laid_loop_example_g00637_impl_errInvalid), ("loop.example/g00637/impl.errNoRoom", laid_loop_example_g00637_impl_errNoRoom), ("loop.example/g00637/impl.errNoHistory", laid_loop_example_g00637_impl_errNoHistory)] }
def FnExactDeskWordsSaid : Prop := fnExactDeskWordsRow.holds Tryz.pinned (OpenSpec.ofChange fnExactDeskWordsSpec)

/-- ITS FALSE NEIGHBOUR: 'it returns false'. Refute it at one input. -/
def fnExactDeskWordsWrong : ChangeSpec := { name := "fnExactDeskWords", vars := ["loop.example/g00637/impl.errInvalid", "loop.example/g00637/impl.errNoHistory", "loop.example/g00637/impl.errNoRoom"], fn := fun _ => fun
  | [g1, g2, g3] => { results := [.lit (.bool false)], args := [], vars := [g1, g2, g3] }
  | _ => none }
def FnExactDeskWordsWrongFalsely : Prop := fnExactDeskWordsRow.holds Tryz.pinned (OpenSpec.ofChange fnExactDeskWordsWrong)

/-- 'laws.FnExactWear': WHATEVER THE INPUT: true; the input reads as it did. -/
def fnExactWearSpec : ChangeSpec := { name := "fnExactWear", vars := ["loop.example/g00637/impl.errInvalid", "loop.example/g00637/impl.errNoHistory"], fn := fun _ => fun
  | [d, g1, g2] => { results := [.lit (.bool true)], args := [d], vars := [g1, g2] }
  | _ => none }
def fnExactWearRow : OpenClaim := { program := "ytdeagcdafcfimaagreatdoor", sum := "68d63a6c7ff9787366c34a2c3b1e7bea8d97a96adadf23c66d3b668269a4c9ad", func := "loop.example/g00637/laws.FnExactWear", spec := "fnExactWear", inPlace := ["internal/reflectlite.ValueOf", "(internal/reflectlite.Value).Type", "(internal/reflectlite.Value).IsNil", "internal/reflectlite.TypeOf", "(internal/reflectlite.Value).Elem", "(internal/reflectlite.Value).Set"], unfollowed := true, recurses := true, named := ["loop.example/g00637/impl.errInvalid", "loop.example/g00637/impl.errNoHistory", "errors.errorType"], ifaces := true, apart := false, laid := [("errors.errorType", laid_errors_errorType), ("loop.example/g00637/impl.errInvalid", laid_loop_example_g00637_impl_errInvalid), ("loop.example/g00637/impl.errNoHistory", laid_loop_example_g00637_impl_errNoHistory)] }
def FnExactWearSaid : Prop := fnExactWearRow.holds Tryz.pinned (OpenSpec.ofChange fnExactWearSpec)

/-- ITS FALSE NEIGHBOUR: 'it returns false'. Refute it at one input. -/
def fnExactWearWrong : ChangeSpec := { name := "fnExactWear", vars := ["loop.example/g00637/impl.errInvalid", "loop.example/g00637/impl.errNoHistory"], fn := fun _ => fun
  | [d, g1, g2] => { results := [.lit (.bool false)], args := [d], vars := [g1, g2] }
  | _ => none }
def FnExactWearWrongFalsely : Prop := fnExactWearRow.holds Tryz.pinned (OpenSpec.ofChange fnExactWearWrong)

/- THE SECOND FORM. 'bulk': how many values and letters a reading holds, each counted each time it is reached (what is shared counts as often as it is met; a slice's spare places count too). A statement '..UptoSaid' is the law's where the arguments, and the package variables that the reading takes, are together of bulk at most 1048576: NARROWER than '..Said'. Prove '..Said' where nothing that the law and all that it calls make is longer than what came in: it says more and counts as full. Else prove '..UptoSaid'. A law counts once. -/
mutual
def uptoBulk {H : Type} : DataW H → Nat
  | .lit (.string bytes) => bytes.length + 1
  | .lit _ => 1
  | .nil => 1
  | .ptr d => uptoBulk d + 1
  | .slice elems spare => uptoBulkAll elems + uptoBulkAll spare + 1
  | .agg parts => uptoBulkAll parts + 1
  | .iface _ d => uptoBulk d + 1
  | .map entries => uptoBulkEntries entries + 1
  | .held _ => 1
def uptoBulkAll {H : Type} : List (DataW H) → Nat
  | [] => 0
  | d :: r => uptoBulk d + uptoBulkAll r
def uptoBulkEntries {H : Type} : List (Lit × DataW H) → Nat
  | [] => 0
  | x :: r => uptoBulkEntry x + uptoBulkEntries r
def uptoBulkEntry {H : Type} : Lit × DataW H → Nat
  | (.string bytes, d) => bytes.length + uptoBulk d + 1
  | (_, d) => uptoBulk d + 1
 end
def uptoSmall : (H : Type) → List (DataW H) → Bool := fun _ ds => decide (uptoBulkAll ds ≤ 1048576)
def OpenSpec.upto (s : _root_.Go.ChangeSpec) : _root_.Go.OpenSpec := { _root_.Go.OpenSpec.ofChange s with cond := some uptoSmall }

/-- 'laws.FnExactDeskRun', WHERE WHAT IT READS IS OF BULK AT MOST 1048576: true; the input reads as it did. -/
def fnExactDeskRunUptoRow : OpenClaim := { program := "ytdeagcdafcfimaagreatdoor", sum := "68d63a6c7ff9787366c34a2c3b1e7bea8d97a96adadf23c66d3b668269a4c9ad", func := "loop.example/g00637/laws.FnExactDeskRun", spec := "fnExactDeskRun", inPlace := ["internal/bytealg.IndexByteString", "internal/bytealg.IndexString", "internal/bytealg.CountString", "internal/reflectlite.ValueOf", "(internal/reflectlite.Value).Type", "(internal/reflectlite.Value).IsNil", "internal/reflectlite.TypeOf", "(internal/reflectlite.Value).Elem", "(internal/reflectlite.Value).Set", "slices.overlaps[int64]", "internal/abi.NoEscape", "internal/bytealg.MakeNoZero"], unfollowed := true, recurses := true, named := ["internal/bytealg.MaxLen", "unicode/utf8.first", "unicode/utf8.acceptRanges", "loop.example/g00637/impl.errInvalid", "loop.example/g00637/impl.errNoHistory", "errors.errorType", "loop.example/g00637/impl.errNoRoom", "internal/strconv.uint64pow10", "math/bits.deBruijn32tab", "math/bits.deBruijn64tab"], ifaces := true, apart := false, laid := [("math/bits.deBruijn32tab", laid_math_bits_deBruijn32tab), ("math/bits.deBruijn64tab", laid_math_bits_deBruijn64tab), ("internal/strconv.uint64pow10", laid_internal_strconv_uint64pow10), ("unicode/utf8.acceptRanges", laid_unicode_utf8_acceptRanges), ("errors.errorType", laid_errors_errorType), ("loop.example/g00637/impl.errInvalid", laid_loop_example_g00637_impl_errInvalid), ("loop.example/g00637/impl.errNoRoom", laid_loop_example_g00637_impl_errNoRoom), ("loop.example/g00637/impl.errNoHistory", laid_loop_example_g00637_impl_errNoHistory), ("unicode/utf8.first", laid_unicode_utf8_first)], narrowed := true }
def FnExactDeskRunUptoSaid : Prop := fnExactDeskRunUptoRow.holds Tryz.pinned (OpenSpec.upto fnExactDeskRunSpec)

/-- 'laws.FnExactDeskFault', WHERE WHAT IT READS IS OF BULK AT MOST 1048576: true; the input reads as it did. -/
def fnExactDeskFaultUptoRow : OpenClaim := { program := "ytdeagcdafcfimaagreatdoor", sum := "68d63a6c7ff9787366c34a2c3b1e7bea8d97a96adadf23c66d3b668269a4c9ad", func := "loop.example/g00637/laws.FnExactDeskFault", spec := "fnExactDeskFault", inPlace := ["internal/bytealg.IndexByteString", "internal/bytealg.IndexString", "internal/bytealg.CountString", "internal/reflectlite.ValueOf", "(internal/reflectlite.Value).Type", "(internal/reflectlite.Value).IsNil", "internal/reflectlite.TypeOf", "(internal/reflectlite.Value).Elem", "(internal/reflectlite.Value).Set", "slices.overlaps[int64]", "internal/abi.NoEscape", "internal/bytealg.MakeNoZero"], unfollowed := true, recurses := true, named := ["internal/bytealg.MaxLen", "unicode/utf8.first", "unicode/utf8.acceptRanges", "loop.example/g00637/impl.errInvalid", "loop.example/g00637/impl.errNoHistory", "errors.errorType", "loop.example/g00637/impl.errNoRoom", "internal/strconv.uint64pow10", "math/bits.deBruijn32tab", "math/bits.deBruijn64tab"], ifaces := true, apart := false, laid := [("math/bits.deBruijn32tab", laid_math_bits_deBruijn32tab), ("math/bits.deBruijn64tab", laid_math_bits_deBruijn64tab), ("internal/strconv.uint64pow10", laid_internal_strconv_uint64pow10), ("unicode/utf8.acceptRanges", laid_unicode_utf8_acceptRanges), ("errors.errorType", laid_errors_errorType), ("loop.example/g00637/impl.errInvalid", laid_loop_example_g00637_impl_errInvalid), ("loop.example/g00637/impl.errNoRoom", laid_loop_example_g00637_impl_errNoRoom), ("loop.example/g00637/impl.errNoHistory", laid_loop_example_g00637_impl_errNoHistory), ("unicode/utf8.first", laid_unicode_utf8_first)], narrowed := true }
def FnExactDeskFaultUptoSaid : Prop := fnExactDeskFaultUptoRow.holds Tryz.pinned (OpenSpec.upto fnExactDeskFaultSpec)

/-- 'laws.FnExactDeskWords', WHERE WHAT IT READS IS OF BULK AT MOST 1048576: true; the input reads as it did. -/
def fnExactDeskWordsUptoRow : OpenClaim := { program := "ytdeagcdafcfimaagreatdoor", sum := "68d63a6c7ff9787366c34a2c3b1e7bea8d97a96adadf23c66d3b668269a4c9ad", func := "loop.example/g00637/laws.FnExactDeskWords", spec := "fnExactDeskWords", inPlace := ["internal/reflectlite.ValueOf", "(internal/reflectlite.Value).Type", "(internal/reflectlite.Value).IsNil", "internal/reflectlite.TypeOf", "(internal/reflectlite.Value).Elem", "(internal/reflectlite.Value).Set", "slices.overlaps[int64]", "internal/abi.NoEscape", "internal/bytealg.MakeNoZero"], unfollowed := true, recurses := true, named := ["loop.example/g00637/impl.errInvalid", "loop.example/g00637/impl.errNoHistory", "errors.errorType", "loop.example/g00637/impl.errNoRoom", "internal/strconv.uint64pow10", "math/bits.deBruijn32tab", "math/bits.deBruijn64tab"], ifaces := true, apart := false, laid := [("math/bits.deBruijn32tab", laid_math_bits_deBruijn32tab), ("math/bits.deBruijn64tab", laid_math_bits_deBruijn64tab), ("internal/strconv.uint64pow10", laid_internal_strconv_uint64pow10), ("errors.errorType", laid_errors_errorType), ("loop.example/g00637/impl.errInvalid", laid_loop_example_g00637_impl_errInvalid), ("loop.example/g00637/impl.errNoRoom", laid_loop_example_g00637_impl_errNoRoom), ("loop.example/g00637/impl.errNoHistory", laid_loop_example_g00637_impl_errNoHistory)], narrowed := true }
def FnExactDeskWordsUptoSaid : Prop := fnExactDeskWordsUptoRow.holds Tryz.pinned (OpenSpec.upto fnExactDeskWordsSpec)

/-- 'laws.FnExactWear', WHERE WHAT IT READS IS OF BULK AT MOST 1048576: true; the input reads as it did. -/
def fnExactWearUptoRow : OpenClaim := { program := "ytdeagcdafcfimaagreatdoor", sum := "68d63a6c7ff9787366c34a2c3b1e7bea8d97a96adadf23c66d3b668269a4c9ad", func := "loop.example/g00637/laws.FnExactWear", spec := "fnExactWear", inPlace := ["internal/reflectlite.ValueOf", "(internal/reflectlite.Value).Type", "(internal/reflectlite.Value).IsNil", "internal/reflectlite.TypeOf", "(internal/reflectlite.Value).Elem", "(internal/reflectlite.Value).Set"], unfollowed := true, recurses := true, named := ["loop.example/g00637/impl.errInvalid", "loop.example/g00637/impl.errNoHistory", "errors.errorType"], ifaces := true, apart := false, laid := [("errors.errorType", laid_errors_errorType), ("loop.example/g00637/impl.errInvalid", laid_loop_example_g00637_impl_errInvalid), ("loop.example/g00637/impl.errNoHistory", laid_loop_example_g00637_impl_errNoHistory)], narrowed := true }
def FnExactWearUptoSaid : Prop := fnExactWearUptoRow.holds Tryz.pinned (OpenSpec.upto fnExactWearSpec)

end Rows
end Go.Proofs.YtdeagcdafcfimaaGreatDoor
