/-
  No cell of these rows narrows 'for every input' (looked for: loops, veiled, ifaces, maps, wideKeys, modest, calm, conditions, laid).
  DERIVED. THE GIVEN ROWS OF THIS SEAT. 9 by the template 'for every input the law returns true; each argument reads behind the call as it read before'; 0 by the template 'total and deterministic' (their statements: YtmimaomgpcmldaaTotals.lean).
  GIVEN WITH THE SEED: the statements are not yours to turn. If you find one false, say at which input.
  Laid BY PROGRAM, IN A SANDBOX (cutbox-rows.mjs): the forced cells as the released guide's own fill.sh prints them over the translation f9017441cb73df9e… (all of the seat's roots in one cut). By AI agents, Wed Nov 11 2026. No macro, syntax, notation, axiom, sorry.
-/
import Derived.Test.YtmimaomgpcmldaaChecked
import GoSem.Claim
import GoSem.ClaimJoined
import GoSem.ClaimMapViews
import Derived.JoinedTies
import Derived.KernelRfl
namespace Go.Proofs.Ytmimaomgpcmldaa
/- THE CELL 'sum', in the pinned program and in every row, IS THE sha256 OF THE DUMP (.gsa) THAT YtmimaomgpcmldaaProg.lean LOADS. Nothing in Lean hashes anything: it is a label: what it is worth is what the hold of that sum in a sandbox is worth. -/
noncomputable def Try.pinned : Pinned := { name := "ytmimaomgpcmldaa", sum := "f9017441cb73df9efb2b10ce386fb0893481efeb75364c7e8c2600656293c849", checked := Try.checked }
namespace Rows
def none {H : Type} : Left H := { results := [], args := [] }

/-- 'laws.FnNand': WHATEVER THE INPUT: true; the input reads as it did. -/
def fnNandSpec : ChangeSpec := { name := "fnNand", fn := fun _ => fun
  | [d1, d2] => { results := [.lit (.bool true)], args := [d1, d2] }
  | _ => none }
def fnNandRow : OpenClaim := { program := "ytmimaomgpcmldaa", sum := "f9017441cb73df9efb2b10ce386fb0893481efeb75364c7e8c2600656293c849", func := "loop.example/g00637/laws.FnNand", spec := "fnNand", unfollowed := true, recurses := true, apart := false }
def FnNandSaid : Prop := fnNandRow.holds Try.pinned (OpenSpec.ofChange fnNandSpec)

/-- ITS FALSE NEIGHBOUR: 'it returns false'. Refute it at one input. -/
def fnNandWrong : ChangeSpec := { name := "fnNand", fn := fun _ => fun
  | [d1, d2] => { results := [.lit (.bool false)], args := [d1, d2] }
  | _ => none }
def FnNandWrongFalsely : Prop := fnNandRow.holds Try.pinned (OpenSpec.ofChange fnNandWrong)

/-- 'laws.FnExactNandRight': WHATEVER THE INPUT: true; the input reads as it did. -/
def fnExactNandRightSpec : ChangeSpec := { name := "fnExactNandRight", fn := fun _ => fun
  | [d] => { results := [.lit (.bool true)], args := [d] }
  | _ => none }
def fnExactNandRightRow : OpenClaim := { program := "ytmimaomgpcmldaa", sum := "f9017441cb73df9efb2b10ce386fb0893481efeb75364c7e8c2600656293c849", func := "loop.example/g00637/laws.FnExactNandRight", spec := "fnExactNandRight", apart := false }
def FnExactNandRightSaid : Prop := fnExactNandRightRow.holds Try.pinned (OpenSpec.ofChange fnExactNandRightSpec)

/-- ITS FALSE NEIGHBOUR: 'it returns false'. Refute it at one input. -/
def fnExactNandRightWrong : ChangeSpec := { name := "fnExactNandRight", fn := fun _ => fun
  | [d] => { results := [.lit (.bool false)], args := [d] }
  | _ => none }
def FnExactNandRightWrongFalsely : Prop := fnExactNandRightRow.holds Try.pinned (OpenSpec.ofChange fnExactNandRightWrong)

/-- 'laws.FnExactNandNew': WHATEVER THE INPUT: true; the input reads as it did. -/
def fnExactNandNewSpec : ChangeSpec := { name := "fnExactNandNew", fn := fun _ => fun
  | [d] => { results := [.lit (.bool true)], args := [d] }
  | _ => none }
def fnExactNandNewRow : OpenClaim := { program := "ytmimaomgpcmldaa", sum := "f9017441cb73df9efb2b10ce386fb0893481efeb75364c7e8c2600656293c849", func := "loop.example/g00637/laws.FnExactNandNew", spec := "fnExactNandNew", apart := false }
def FnExactNandNewSaid : Prop := fnExactNandNewRow.holds Try.pinned (OpenSpec.ofChange fnExactNandNewSpec)

/-- ITS FALSE NEIGHBOUR: 'it returns false'. Refute it at one input. -/
def fnExactNandNewWrong : ChangeSpec := { name := "fnExactNandNew", fn := fun _ => fun
  | [d] => { results := [.lit (.bool false)], args := [d] }
  | _ => none }
def FnExactNandNewWrongFalsely : Prop := fnExactNandNewRow.holds Try.pinned (OpenSpec.ofChange fnExactNandNewWrong)

/-- 'laws.FnExactUsedOf': WHATEVER THE INPUT: true; the input reads as it did. -/
def fnExactUsedOfSpec : ChangeSpec := { name := "fnExactUsedOf", fn := fun _ => fun
  | [d1, d2] => { results := [.lit (.bool true)], args := [d1, d2] }
  | _ => none }
def fnExactUsedOfRow : OpenClaim := { program := "ytmimaomgpcmldaa", sum := "f9017441cb73df9efb2b10ce386fb0893481efeb75364c7e8c2600656293c849", func := "loop.example/g00637/laws.FnExactUsedOf", spec := "fnExactUsedOf", apart := false }
def FnExactUsedOfSaid : Prop := fnExactUsedOfRow.holds Try.pinned (OpenSpec.ofChange fnExactUsedOfSpec)

/-- ITS FALSE NEIGHBOUR: 'it returns false'. Refute it at one input. -/
def fnExactUsedOfWrong : ChangeSpec := { name := "fnExactUsedOf", fn := fun _ => fun
  | [d1, d2] => { results := [.lit (.bool false)], args := [d1, d2] }
  | _ => none }
def FnExactUsedOfWrongFalsely : Prop := fnExactUsedOfRow.holds Try.pinned (OpenSpec.ofChange fnExactUsedOfWrong)

/-- 'laws.FnExactPageAt': WHATEVER THE INPUT: true; the input reads as it did. -/
def fnExactPageAtSpec : ChangeSpec := { name := "fnExactPageAt", fn := fun _ => fun
  | [d1, d2, d3] => { results := [.lit (.bool true)], args := [d1, d2, d3] }
  | _ => none }
def fnExactPageAtRow : OpenClaim := { program := "ytmimaomgpcmldaa", sum := "f9017441cb73df9efb2b10ce386fb0893481efeb75364c7e8c2600656293c849", func := "loop.example/g00637/laws.FnExactPageAt", spec := "fnExactPageAt", unfollowed := true, recurses := true, apart := false }
def FnExactPageAtSaid : Prop := fnExactPageAtRow.holds Try.pinned (OpenSpec.ofChange fnExactPageAtSpec)

/-- ITS FALSE NEIGHBOUR: 'it returns false'. Refute it at one input. -/
def fnExactPageAtWrong : ChangeSpec := { name := "fnExactPageAt", fn := fun _ => fun
  | [d1, d2, d3] => { results := [.lit (.bool false)], args := [d1, d2, d3] }
  | _ => none }
def FnExactPageAtWrongFalsely : Prop := fnExactPageAtRow.holds Try.pinned (OpenSpec.ofChange fnExactPageAtWrong)

/-- 'laws.FnExactProgram': WHATEVER THE INPUT: true; the input reads as it did. -/
def fnExactProgramSpec : ChangeSpec := { name := "fnExactProgram", fn := fun _ => fun
  | [d1, d2, d3] => { results := [.lit (.bool true)], args := [d1, d2, d3] }
  | _ => none }
def fnExactProgramRow : OpenClaim := { program := "ytmimaomgpcmldaa", sum := "f9017441cb73df9efb2b10ce386fb0893481efeb75364c7e8c2600656293c849", func := "loop.example/g00637/laws.FnExactProgram", spec := "fnExactProgram", apart := false }
def FnExactProgramSaid : Prop := fnExactProgramRow.holds Try.pinned (OpenSpec.ofChange fnExactProgramSpec)

/-- ITS FALSE NEIGHBOUR: 'it returns false'. Refute it at one input. -/
def fnExactProgramWrong : ChangeSpec := { name := "fnExactProgram", fn := fun _ => fun
  | [d1, d2, d3] => { results := [.lit (.bool false)], args := [d1, d2, d3] }
  | _ => none }
def FnExactProgramWrongFalsely : Prop := fnExactProgramRow.holds Try.pinned (OpenSpec.ofChange fnExactProgramWrong)

/-- 'laws.FnExactErase': WHATEVER THE INPUT: true; the input reads as it did. -/
def fnExactEraseSpec : ChangeSpec := { name := "fnExactErase", fn := fun _ => fun
  | [d1, d2] => { results := [.lit (.bool true)], args := [d1, d2] }
  | _ => none }
def fnExactEraseRow : OpenClaim := { program := "ytmimaomgpcmldaa", sum := "f9017441cb73df9efb2b10ce386fb0893481efeb75364c7e8c2600656293c849", func := "loop.example/g00637/laws.FnExactErase", spec := "fnExactErase", apart := false }
def FnExactEraseSaid : Prop := fnExactEraseRow.holds Try.pinned (OpenSpec.ofChange fnExactEraseSpec)

/-- ITS FALSE NEIGHBOUR: 'it returns false'. Refute it at one input. -/
def fnExactEraseWrong : ChangeSpec := { name := "fnExactErase", fn := fun _ => fun
  | [d1, d2] => { results := [.lit (.bool false)], args := [d1, d2] }
  | _ => none }
def FnExactEraseWrongFalsely : Prop := fnExactEraseRow.holds Try.pinned (OpenSpec.ofChange fnExactEraseWrong)

/-- 'laws.FnExactMarkBad': WHATEVER THE INPUT: true; the input reads as it did. -/
def fnExactMarkBadSpec : ChangeSpec := { name := "fnExactMarkBad", fn := fun _ => fun
  | [d1, d2] => { results := [.lit (.bool true)], args := [d1, d2] }
  | _ => none }
def fnExactMarkBadRow : OpenClaim := { program := "ytmimaomgpcmldaa", sum := "f9017441cb73df9efb2b10ce386fb0893481efeb75364c7e8c2600656293c849", func := "loop.example/g00637/laws.FnExactMarkBad", spec := "fnExactMarkBad", apart := false }
def FnExactMarkBadSaid : Prop := fnExactMarkBadRow.holds Try.pinned (OpenSpec.ofChange fnExactMarkBadSpec)

/-- ITS FALSE NEIGHBOUR: 'it returns false'. Refute it at one input. -/
def fnExactMarkBadWrong : ChangeSpec := { name := "fnExactMarkBad", fn := fun _ => fun
  | [d1, d2] => { results := [.lit (.bool false)], args := [d1, d2] }
  | _ => none }
def FnExactMarkBadWrongFalsely : Prop := fnExactMarkBadRow.holds Try.pinned (OpenSpec.ofChange fnExactMarkBadWrong)

/-- 'laws.FnExactFreeBlocks': WHATEVER THE INPUT: true; the input reads as it did. -/
def fnExactFreeBlocksSpec : ChangeSpec := { name := "fnExactFreeBlocks", fn := fun _ => fun
  | [d] => { results := [.lit (.bool true)], args := [d] }
  | _ => none }
def fnExactFreeBlocksRow : OpenClaim := { program := "ytmimaomgpcmldaa", sum := "f9017441cb73df9efb2b10ce386fb0893481efeb75364c7e8c2600656293c849", func := "loop.example/g00637/laws.FnExactFreeBlocks", spec := "fnExactFreeBlocks", apart := false }
def FnExactFreeBlocksSaid : Prop := fnExactFreeBlocksRow.holds Try.pinned (OpenSpec.ofChange fnExactFreeBlocksSpec)

/-- ITS FALSE NEIGHBOUR: 'it returns false'. Refute it at one input. -/
def fnExactFreeBlocksWrong : ChangeSpec := { name := "fnExactFreeBlocks", fn := fun _ => fun
  | [d] => { results := [.lit (.bool false)], args := [d] }
  | _ => none }
def FnExactFreeBlocksWrongFalsely : Prop := fnExactFreeBlocksRow.holds Try.pinned (OpenSpec.ofChange fnExactFreeBlocksWrong)

/- THE SECOND FORM. 'bulk': how many values and letters a reading holds, each counted each time it is reached (what is shared counts as often as it is met; a slice's spare places count too). A statement '..UptoSaid' is the law's where the arguments, and the package variables that the reading takes, are together of bulk at most 1048576: NARROWER than '..Said'. Prove '..Said' where nothing that the law and all that it calls make is longer than what came in: it says more and counts as full. Else prove '..UptoSaid'. A law counts once. -/
mutual
def uptoBulk {H : Type} : DataW H → Nat
  | .lit (.string bytes) => bytes.length + 1
  | .lit _ => 1
  | .nil => 1
  | .ptr d => uptoBulk d + 1
  | .slice elems spare => uptoBulkAll elems + uptoBulkAll spare + 1
  | .agg parts => uptoBulkAll parts + 1
  | .iface _ d => uptoBulk d + 1
  | .map entries => uptoBulkEntries entries + 1
  | .held _ => 1
def uptoBulkAll {H : Type} : List (DataW H) → Nat
  | [] => 0
  | d :: r => uptoBulk d + uptoBulkAll r
def uptoBulkEntries {H : Type} : List (Lit × DataW H) → Nat
  | [] => 0
  | x :: r => uptoBulkEntry x + uptoBulkEntries r
def uptoBulkEntry {H : Type} : Lit × DataW H → Nat
  | (.string bytes, d) => bytes.length + uptoBulk d + 1
  | (_, d) => uptoBulk d + 1
 end
def uptoSmall : (H : Type) → List (DataW H) → Bool := fun _ ds => decide (uptoBulkAll ds ≤ 1048576)
def OpenSpec.upto (s : _root_.Go.ChangeSpec) : _root_.Go.OpenSpec := { _root_.Go.OpenSpec.ofChange s with cond := some uptoSmall }

/-- 'laws.FnNand', WHERE WHAT IT READS IS OF BULK AT MOST 1048576: true; the input reads as it did. -/
def fnNandUptoRow : OpenClaim := { program := "ytmimaomgpcmldaa", sum := "f9017441cb73df9efb2b10ce386fb0893481efeb75364c7e8c2600656293c849", func := "loop.example/g00637/laws.FnNand", spec := "fnNand", unfollowed := true, recurses := true, apart := false, narrowed := true }
def FnNandUptoSaid : Prop := fnNandUptoRow.holds Try.pinned (OpenSpec.upto fnNandSpec)

/-- 'laws.FnExactNandRight', WHERE WHAT IT READS IS OF BULK AT MOST 1048576: true; the input reads as it did. -/
def fnExactNandRightUptoRow : OpenClaim := { program := "ytmimaomgpcmldaa", sum := "f9017441cb73df9efb2b10ce386fb0893481efeb75364c7e8c2600656293c849", func := "loop.example/g00637/laws.FnExactNandRight", spec := "fnExactNandRight", apart := false, narrowed := true }
def FnExactNandRightUptoSaid : Prop := fnExactNandRightUptoRow.holds Try.pinned (OpenSpec.upto fnExactNandRightSpec)

/-- 'laws.FnExactNandNew', WHERE WHAT IT READS IS OF BULK AT MOST 1048576: true; the input reads as it did. -/
def fnExactNandNewUptoRow : OpenClaim := { program := "ytmimaomgpcmldaa", sum := "f9017441cb73df9efb2b10ce386fb0893481efeb75364c7e8c2600656293c849", func := "loop.example/g00637/laws.FnExactNandNew", spec := "fnExactNandNew", apart := false, narrowed := true }
def FnExactNandNewUptoSaid : Prop := fnExactNandNewUptoRow.holds Try.pinned (OpenSpec.upto fnExactNandNewSpec)

/-- 'laws.FnExactUsedOf', WHERE WHAT IT READS IS OF BULK AT MOST 1048576: true; the input reads as it did. -/
def fnExactUsedOfUptoRow : OpenClaim := { program := "ytmimaomgpcmldaa", sum := "f9017441cb73df9efb2b10ce386fb0893481efeb75364c7e8c2600656293c849", func := "loop.example/g00637/laws.FnExactUsedOf", spec := "fnExactUsedOf", apart := false, narrowed := true }
def FnExactUsedOfUptoSaid : Prop := fnExactUsedOfUptoRow.holds Try.pinned (OpenSpec.upto fnExactUsedOfSpec)

/-- 'laws.FnExactPageAt', WHERE WHAT IT READS IS OF BULK AT MOST 1048576: true; the input reads as it did. -/
def fnExactPageAtUptoRow : OpenClaim := { program := "ytmimaomgpcmldaa", sum := "f9017441cb73df9efb2b10ce386fb0893481efeb75364c7e8c2600656293c849", func := "loop.example/g00637/laws.FnExactPageAt", spec := "fnExactPageAt", unfollowed := true, recurses := true, apart := false, narrowed := true }
def FnExactPageAtUptoSaid : Prop := fnExactPageAtUptoRow.holds Try.pinned (OpenSpec.upto fnExactPageAtSpec)

/-- 'laws.FnExactProgram', WHERE WHAT IT READS IS OF BULK AT MOST 1048576: true; the input reads as it did. -/
def fnExactProgramUptoRow : OpenClaim := { program := "ytmimaomgpcmldaa", sum := "f9017441cb73df9efb2b10ce386fb0893481efeb75364c7e8c2600656293c849", func := "loop.example/g00637/laws.FnExactProgram", spec := "fnExactProgram", apart := false, narrowed := true }
def FnExactProgramUptoSaid : Prop := fnExactProgramUptoRow.holds Try.pinned (OpenSpec.upto fnExactProgramSpec)

/-- 'laws.FnExactErase', WHERE WHAT IT READS IS OF BULK AT MOST 1048576: true; the input reads as it did. -/
def fnExactEraseUptoRow : OpenClaim := { program := "ytmimaomgpcmldaa", sum := "f9017441cb73df9efb2b10ce386fb0893481efeb75364c7e8c2600656293c849", func := "loop.example/g00637/laws.FnExactErase", spec := "fnExactErase", apart := false, narrowed := true }
def FnExactEraseUptoSaid : Prop := fnExactEraseUptoRow.holds Try.pinned (OpenSpec.upto fnExactEraseSpec)

/-- 'laws.FnExactMarkBad', WHERE WHAT IT READS IS OF BULK AT MOST 1048576: true; the input reads as it did. -/
def fnExactMarkBadUptoRow : OpenClaim := { program := "ytmimaomgpcmldaa", sum := "f9017441cb73df9efb2b10ce386fb0893481efeb75364c7e8c2600656293c849", func := "loop.example/g00637/laws.FnExactMarkBad", spec := "fnExactMarkBad", apart := false, narrowed := true }
def FnExactMarkBadUptoSaid : Prop := fnExactMarkBadUptoRow.holds Try.pinned (OpenSpec.upto fnExactMarkBadSpec)

/-- 'laws.FnExactFreeBlocks', WHERE WHAT IT READS IS OF BULK AT MOST 1048576: true; the input reads as it did. -/
def fnExactFreeBlocksUptoRow : OpenClaim := { program := "ytmimaomgpcmldaa", sum := "f9017441cb73df9efb2b10ce386fb0893481efeb75364c7e8c2600656293c849", func := "loop.example/g00637/laws.FnExactFreeBlocks", spec := "fnExactFreeBlocks", apart := false, narrowed := true }
def FnExactFreeBlocksUptoSaid : Prop := fnExactFreeBlocksUptoRow.holds Try.pinned (OpenSpec.upto fnExactFreeBlocksSpec)

end Rows
end Go.Proofs.Ytmimaomgpcmldaa
