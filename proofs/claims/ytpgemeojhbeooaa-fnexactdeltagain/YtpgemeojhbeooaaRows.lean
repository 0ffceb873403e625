/-
  No cell of these rows narrows 'for every input' (looked for: loops, veiled, ifaces, maps, wideKeys, modest, calm, conditions, laid).
  DERIVED. THE GIVEN ROWS OF THIS SEAT. 5 by the template 'for every input the law returns true; each argument reads behind the call as it read before'; 0 by the template 'total and deterministic' (their statements: YtpgemeojhbeooaaTotals.lean).
  GIVEN WITH THE SEED: the statements are not yours to turn. If you find one false, say at which input.
  Laid BY PROGRAM, IN A SANDBOX (cutbox-rows.mjs): the forced cells as the released guide's own fill.sh prints them over the translation 863119076d2fdcd7… (all of the seat's roots in one cut). By AI agents, Wed Nov 11 2026. No macro, syntax, notation, axiom, sorry.
-/
import Derived.Test.YtpgemeojhbeooaaChecked
import GoSem.Claim
import GoSem.ClaimJoined
import GoSem.ClaimMapViews
import Derived.JoinedTies
import Derived.KernelRfl
namespace Go.Proofs.Ytpgemeojhbeooaa
/- THE CELL 'sum', in the pinned program and in every row, IS THE sha256 OF THE DUMP (.gsa) THAT YtpgemeojhbeooaaProg.lean LOADS. Nothing in Lean hashes anything: it is a label: what it is worth is what the hold of that sum in a sandbox is worth. -/
noncomputable def Try.pinned : Pinned := { name := "ytpgemeojhbeooaa", sum := "863119076d2fdcd77e0562f577f06180754f194d23c0bb926e41bf373ccb9431", checked := Try.checked }
namespace Rows
def none {H : Type} : Left H := { results := [], args := [] }

/-- 'laws.FnExactDeltaRight': WHATEVER THE INPUT: true; the input reads as it did. -/
def fnExactDeltaRightSpec : ChangeSpec := { name := "fnExactDeltaRight", fn := fun _ => fun
  | [d1, d2] => { results := [.lit (.bool true)], args := [d1, d2] }
  | _ => none }
def fnExactDeltaRightRow : OpenClaim := { program := "ytpgemeojhbeooaa", sum := "863119076d2fdcd77e0562f577f06180754f194d23c0bb926e41bf373ccb9431", func := "loop.example/g00637/laws.FnExactDeltaRight", spec := "fnExactDeltaRight", apart := false }
def FnExactDeltaRightSaid : Prop := fnExactDeltaRightRow.holds Try.pinned (OpenSpec.ofChange fnExactDeltaRightSpec)

/-- ITS FALSE NEIGHBOUR: 'it returns false'. Refute it at one input. -/
def fnExactDeltaRightWrong : ChangeSpec := { name := "fnExactDeltaRight", fn := fun _ => fun
  | [d1, d2] => { results := [.lit (.bool false)], args := [d1, d2] }
  | _ => none }
def FnExactDeltaRightWrongFalsely : Prop := fnExactDeltaRightRow.holds Try.pinned (OpenSpec.ofChange fnExactDeltaRightWrong)

/-- 'laws.FnExactDeltaApply': WHATEVER THE INPUT: true; the input reads as it did. -/
def fnExactDeltaApplySpec : ChangeSpec := { name := "fnExactDeltaApply", fn := fun _ => fun
  | [d1, d2] => { results := [.lit (.bool true)], args := [d1, d2] }
  | _ => none }
def fnExactDeltaApplyRow : OpenClaim := { program := "ytpgemeojhbeooaa", sum := "863119076d2fdcd77e0562f577f06180754f194d23c0bb926e41bf373ccb9431", func := "loop.example/g00637/laws.FnExactDeltaApply", spec := "fnExactDeltaApply", apart := false }
def FnExactDeltaApplySaid : Prop := fnExactDeltaApplyRow.holds Try.pinned (OpenSpec.ofChange fnExactDeltaApplySpec)

/-- ITS FALSE NEIGHBOUR: 'it returns false'. Refute it at one input. -/
def fnExactDeltaApplyWrong : ChangeSpec := { name := "fnExactDeltaApply", fn := fun _ => fun
  | [d1, d2] => { results := [.lit (.bool false)], args := [d1, d2] }
  | _ => none }
def FnExactDeltaApplyWrongFalsely : Prop := fnExactDeltaApplyRow.holds Try.pinned (OpenSpec.ofChange fnExactDeltaApplyWrong)

/-- 'laws.FnExactDeltaOf': WHATEVER THE INPUT: true; the input reads as it did. -/
def fnExactDeltaOfSpec : ChangeSpec := { name := "fnExactDeltaOf", fn := fun _ => fun
  | [d1, d2] => { results := [.lit (.bool true)], args := [d1, d2] }
  | _ => none }
def fnExactDeltaOfRow : OpenClaim := { program := "ytpgemeojhbeooaa", sum := "863119076d2fdcd77e0562f577f06180754f194d23c0bb926e41bf373ccb9431", func := "loop.example/g00637/laws.FnExactDeltaOf", spec := "fnExactDeltaOf", unfollowed := true, recurses := true, apart := false }
def FnExactDeltaOfSaid : Prop := fnExactDeltaOfRow.holds Try.pinned (OpenSpec.ofChange fnExactDeltaOfSpec)

/-- ITS FALSE NEIGHBOUR: 'it returns false'. Refute it at one input. -/
def fnExactDeltaOfWrong : ChangeSpec := { name := "fnExactDeltaOf", fn := fun _ => fun
  | [d1, d2] => { results := [.lit (.bool false)], args := [d1, d2] }
  | _ => none }
def FnExactDeltaOfWrongFalsely : Prop := fnExactDeltaOfRow.holds Try.pinned (OpenSpec.ofChange fnExactDeltaOfWrong)

/-- 'laws.FnExactDeltaBytes': WHATEVER THE INPUT: true; the input reads as it did. -/
def fnExactDeltaBytesSpec : ChangeSpec := { name := "fnExactDeltaBytes", fn := fun _ => fun
  | [d] => { results := [.lit (.bool true)], args := [d] }
  | _ => none }
def fnExactDeltaBytesRow : OpenClaim := { program := "ytpgemeojhbeooaa", sum := "863119076d2fdcd77e0562f577f06180754f194d23c0bb926e41bf373ccb9431", func := "loop.example/g00637/laws.FnExactDeltaBytes", spec := "fnExactDeltaBytes", unfollowed := true, recurses := true, apart := false }
def FnExactDeltaBytesSaid : Prop := fnExactDeltaBytesRow.holds Try.pinned (OpenSpec.ofChange fnExactDeltaBytesSpec)

/-- ITS FALSE NEIGHBOUR: 'it returns false'. Refute it at one input. -/
def fnExactDeltaBytesWrong : ChangeSpec := { name := "fnExactDeltaBytes", fn := fun _ => fun
  | [d] => { results := [.lit (.bool false)], args := [d] }
  | _ => none }
def FnExactDeltaBytesWrongFalsely : Prop := fnExactDeltaBytesRow.holds Try.pinned (OpenSpec.ofChange fnExactDeltaBytesWrong)

/-- 'laws.FnExactDeltaGain': WHATEVER THE INPUT: true; the input reads as it did. -/
def fnExactDeltaGainSpec : ChangeSpec := { name := "fnExactDeltaGain", fn := fun _ => fun
  | [d1, d2] => { results := [.lit (.bool true)], args := [d1, d2] }
  | _ => none }
def fnExactDeltaGainRow : OpenClaim := { program := "ytpgemeojhbeooaa", sum := "863119076d2fdcd77e0562f577f06180754f194d23c0bb926e41bf373ccb9431", func := "loop.example/g00637/laws.FnExactDeltaGain", spec := "fnExactDeltaGain", unfollowed := true, recurses := true, apart := false }
def FnExactDeltaGainSaid : Prop := fnExactDeltaGainRow.holds Try.pinned (OpenSpec.ofChange fnExactDeltaGainSpec)

/-- ITS FALSE NEIGHBOUR: 'it returns false'. Refute it at one input. -/
def fnExactDeltaGainWrong : ChangeSpec := { name := "fnExactDeltaGain", fn := fun _ => fun
  | [d1, d2] => { results := [.lit (.bool false)], args := [d1, d2] }
  | _ => none }
def FnExactDeltaGainWrongFalsely : Prop := fnExactDeltaGainRow.holds Try.pinned (OpenSpec.ofChange fnExactDeltaGainWrong)

/- THE SECOND FORM. 'bulk': how many values and letters a reading holds, each counted each time it is reached (what is shared counts as often as it is met; a slice's spare places count too). A statement '..UptoSaid' is the law's where the arguments, and the package variables that the reading takes, are together of bulk at most 1048576: NARROWER than '..Said'. Prove '..Said' where nothing that the law and all that it calls make is longer than what came in: it says more and counts as full. Else prove '..UptoSaid'. A law counts once. -/
mutual
def uptoBulk {H : Type} : DataW H → Nat
  | .lit (.string bytes) => bytes.length + 1
  | .lit _ => 1
  | .nil => 1
  | .ptr d => uptoBulk d + 1
  | .slice elems spare => uptoBulkAll elems + uptoBulkAll spare + 1
  | .agg parts => uptoBulkAll parts + 1
  | .iface _ d => uptoBulk d + 1
  | .map entries => uptoBulkEntries entries + 1
  | .held _ => 1
def uptoBulkAll {H : Type} : List (DataW H) → Nat
  | [] => 0
  | d :: r => uptoBulk d + uptoBulkAll r
def uptoBulkEntries {H : Type} : List (Lit × DataW H) → Nat
  | [] => 0
  | x :: r => uptoBulkEntry x + uptoBulkEntries r
def uptoBulkEntry {H : Type} : Lit × DataW H → Nat
  | (.string bytes, d) => bytes.length + uptoBulk d + 1
  | (_, d) => uptoBulk d + 1
 end
def uptoSmall : (H : Type) → List (DataW H) → Bool := fun _ ds => decide (uptoBulkAll ds ≤ 1048576)
def OpenSpec.upto (s : _root_.Go.ChangeSpec) : _root_.Go.OpenSpec := { _root_.Go.OpenSpec.ofChange s with cond := some uptoSmall }

/-- 'laws.FnExactDeltaRight', WHERE WHAT IT READS IS OF BULK AT MOST 1048576: true; the input reads as it did. -/
def fnExactDeltaRightUptoRow : OpenClaim := { program := "ytpgemeojhbeooaa", sum := "863119076d2fdcd77e0562f577f06180754f194d23c0bb926e41bf373ccb9431", func := "loop.example/g00637/laws.FnExactDeltaRight", spec := "fnExactDeltaRight", apart := false, narrowed := true }
def FnExactDeltaRightUptoSaid : Prop := fnExactDeltaRightUptoRow.holds Try.pinned (OpenSpec.upto fnExactDeltaRightSpec)

/-- 'laws.FnExactDeltaApply', WHERE WHAT IT READS IS OF BULK AT MOST 1048576: true; the input reads as it did. -/
def fnExactDeltaApplyUptoRow : OpenClaim := { program := "ytpgemeojhbeooaa", sum := "863119076d2fdcd77e0562f577f06180754f194d23c0bb926e41bf373ccb9431", func := "loop.example/g00637/laws.FnExactDeltaApply", spec := "fnExactDeltaApply", apart := false, narrowed := true }
def FnExactDeltaApplyUptoSaid : Prop := fnExactDeltaApplyUptoRow.holds Try.pinned (OpenSpec.upto fnExactDeltaApplySpec)

/-- 'laws.FnExactDeltaOf', WHERE WHAT IT READS IS OF BULK AT MOST 1048576: true; the input reads as it did. -/
def fnExactDeltaOfUptoRow : OpenClaim := { program := "ytpgemeojhbeooaa", sum := "863119076d2fdcd77e0562f577f06180754f194d23c0bb926e41bf373ccb9431", func := "loop.example/g00637/laws.FnExactDeltaOf", spec := "fnExactDeltaOf", unfollowed := true, recurses := true, apart := false, narrowed := true }
def FnExactDeltaOfUptoSaid : Prop := fnExactDeltaOfUptoRow.holds Try.pinned (OpenSpec.upto fnExactDeltaOfSpec)

/-- 'laws.FnExactDeltaBytes', WHERE WHAT IT READS IS OF BULK AT MOST 1048576: true; the input reads as it did. -/
def fnExactDeltaBytesUptoRow : OpenClaim := { program := "ytpgemeojhbeooaa", sum := "863119076d2fdcd77e0562f577f06180754f194d23c0bb926e41bf373ccb9431", func := "loop.example/g00637/laws.FnExactDeltaBytes", spec := "fnExactDeltaBytes", unfollowed := true, recurses := true, apart := false, narrowed := true }
def FnExactDeltaBytesUptoSaid : Prop := fnExactDeltaBytesUptoRow.holds Try.pinned (OpenSpec.upto fnExactDeltaBytesSpec)

/-- 'laws.FnExactDeltaGain', WHERE WHAT IT READS IS OF BULK AT MOST 1048576: true; the input reads as it did. -/
def fnExactDeltaGainUptoRow : OpenClaim := { program := "ytpgemeojhbeooaa", sum := "863119076d2fdcd77e0562f577f06180754f194d23c0bb926e41bf373ccb9431", func := "loop.example/g00637/laws.FnExactDeltaGain", spec := "fnExactDeltaGain", unfollowed := true, recurses := true, apart := false, narrowed := true }
def FnExactDeltaGainUptoSaid : Prop := fnExactDeltaGainUptoRow.holds Try.pinned (OpenSpec.upto fnExactDeltaGainSpec)

end Rows
end Go.Proofs.Ytpgemeojhbeooaa
