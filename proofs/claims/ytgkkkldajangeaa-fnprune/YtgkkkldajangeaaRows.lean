/-
  No cell of these rows narrows 'for every input' (looked for: loops, veiled, ifaces, maps, wideKeys, modest, calm, conditions, laid).
  DERIVED. THE GIVEN ROWS OF THIS SEAT. 5 by the template 'for every input the law returns true; each argument reads behind the call as it read before'; 0 by the template 'total and deterministic' (their statements: YtgkkkldajangeaaTotals.lean).
  GIVEN WITH THE SEED: the statements are not yours to turn. If you find one false, say at which input.
  Laid BY PROGRAM, IN A SANDBOX (cutbox-rows.mjs): the forced cells as the released guide's own fill.sh prints them over the translation 0b89907554e9eb72… (all of the seat's roots in one cut). By AI agents, Wed Nov 11 2026. No macro, syntax, notation, axiom, sorry.
-/
import Derived.Test.YtgkkkldajangeaaChecked
import GoSem.Claim
import GoSem.ClaimJoined
import GoSem.ClaimMapViews
import Derived.JoinedTies
import Derived.KernelRfl
namespace Go.Proofs.Ytgkkkldajangeaa
/- THE CELL 'sum', in the pinned program and in every row, IS THE sha256 OF THE DUMP (.gsa) THAT YtgkkkldajangeaaProg.lean LOADS. Nothing in Lean hashes anything: it is a label: what it is worth is what the hold of that sum in a sandbox is worth. -/
noncomputable def Try.pinned : Pinned := { name := "ytgkkkldajangeaa", sum := "0b89907554e9eb72bfb8ca220d68b69c3408a0b32e35cba9b6a132822dfdb444", checked := Try.checked }
namespace Rows
def none {H : Type} : Left H := { results := [], args := [] }

/-- 'laws.FnHist': WHATEVER THE INPUT: true; the input reads as it did. -/
def fnHistSpec : ChangeSpec := { name := "fnHist", fn := fun _ => fun
  | [d1, d2] => { results := [.lit (.bool true)], args := [d1, d2] }
  | _ => none }
def fnHistRow : OpenClaim := { program := "ytgkkkldajangeaa", sum := "0b89907554e9eb72bfb8ca220d68b69c3408a0b32e35cba9b6a132822dfdb444", func := "loop.example/g00637/laws.FnHist", spec := "fnHist", inPlace := ["slices.overlaps[int64]"], unfollowed := true, recurses := true, apart := false }
def FnHistSaid : Prop := fnHistRow.holds Try.pinned (OpenSpec.ofChange fnHistSpec)

/-- ITS FALSE NEIGHBOUR: 'it returns false'. Refute it at one input. -/
def fnHistWrong : ChangeSpec := { name := "fnHist", fn := fun _ => fun
  | [d1, d2] => { results := [.lit (.bool false)], args := [d1, d2] }
  | _ => none }
def FnHistWrongFalsely : Prop := fnHistRow.holds Try.pinned (OpenSpec.ofChange fnHistWrong)

/-- 'laws.FnPrune': WHATEVER THE INPUT: true; the input reads as it did. -/
def fnPruneSpec : ChangeSpec := { name := "fnPrune", fn := fun _ => fun
  | [d] => { results := [.lit (.bool true)], args := [d] }
  | _ => none }
def fnPruneRow : OpenClaim := { program := "ytgkkkldajangeaa", sum := "0b89907554e9eb72bfb8ca220d68b69c3408a0b32e35cba9b6a132822dfdb444", func := "loop.example/g00637/laws.FnPrune", spec := "fnPrune", inPlace := ["slices.overlaps[int64]"], unfollowed := true, recurses := true, apart := false }
def FnPruneSaid : Prop := fnPruneRow.holds Try.pinned (OpenSpec.ofChange fnPruneSpec)

/-- ITS FALSE NEIGHBOUR: 'it returns false'. Refute it at one input. -/
def fnPruneWrong : ChangeSpec := { name := "fnPrune", fn := fun _ => fun
  | [d] => { results := [.lit (.bool false)], args := [d] }
  | _ => none }
def FnPruneWrongFalsely : Prop := fnPruneRow.holds Try.pinned (OpenSpec.ofChange fnPruneWrong)

/-- 'laws.FnEcc': WHATEVER THE INPUT: true; the input reads as it did. -/
def fnEccSpec : ChangeSpec := { name := "fnEcc", fn := fun _ => fun
  | [d1, d2] => { results := [.lit (.bool true)], args := [d1, d2] }
  | _ => none }
def fnEccRow : OpenClaim := { program := "ytgkkkldajangeaa", sum := "0b89907554e9eb72bfb8ca220d68b69c3408a0b32e35cba9b6a132822dfdb444", func := "loop.example/g00637/laws.FnEcc", spec := "fnEcc", apart := false }
def FnEccSaid : Prop := fnEccRow.holds Try.pinned (OpenSpec.ofChange fnEccSpec)

/-- ITS FALSE NEIGHBOUR: 'it returns false'. Refute it at one input. -/
def fnEccWrong : ChangeSpec := { name := "fnEcc", fn := fun _ => fun
  | [d1, d2] => { results := [.lit (.bool false)], args := [d1, d2] }
  | _ => none }
def FnEccWrongFalsely : Prop := fnEccRow.holds Try.pinned (OpenSpec.ofChange fnEccWrong)

/-- 'laws.FnExactEccOf': WHATEVER THE INPUT: true; the input reads as it did. -/
def fnExactEccOfSpec : ChangeSpec := { name := "fnExactEccOf", fn := fun _ => fun
  | [d] => { results := [.lit (.bool true)], args := [d] }
  | _ => none }
def fnExactEccOfRow : OpenClaim := { program := "ytgkkkldajangeaa", sum := "0b89907554e9eb72bfb8ca220d68b69c3408a0b32e35cba9b6a132822dfdb444", func := "loop.example/g00637/laws.FnExactEccOf", spec := "fnExactEccOf", apart := false }
def FnExactEccOfSaid : Prop := fnExactEccOfRow.holds Try.pinned (OpenSpec.ofChange fnExactEccOfSpec)

/-- ITS FALSE NEIGHBOUR: 'it returns false'. Refute it at one input. -/
def fnExactEccOfWrong : ChangeSpec := { name := "fnExactEccOf", fn := fun _ => fun
  | [d] => { results := [.lit (.bool false)], args := [d] }
  | _ => none }
def FnExactEccOfWrongFalsely : Prop := fnExactEccOfRow.holds Try.pinned (OpenSpec.ofChange fnExactEccOfWrong)

/-- 'laws.FnExactEccFix': WHATEVER THE INPUT: true; the input reads as it did. -/
def fnExactEccFixSpec : ChangeSpec := { name := "fnExactEccFix", fn := fun _ => fun
  | [d1, d2] => { results := [.lit (.bool true)], args := [d1, d2] }
  | _ => none }
def fnExactEccFixRow : OpenClaim := { program := "ytgkkkldajangeaa", sum := "0b89907554e9eb72bfb8ca220d68b69c3408a0b32e35cba9b6a132822dfdb444", func := "loop.example/g00637/laws.FnExactEccFix", spec := "fnExactEccFix", apart := false }
def FnExactEccFixSaid : Prop := fnExactEccFixRow.holds Try.pinned (OpenSpec.ofChange fnExactEccFixSpec)

/-- ITS FALSE NEIGHBOUR: 'it returns false'. Refute it at one input. -/
def fnExactEccFixWrong : ChangeSpec := { name := "fnExactEccFix", fn := fun _ => fun
  | [d1, d2] => { results := [.lit (.bool false)], args := [d1, d2] }
  | _ => none }
def FnExactEccFixWrongFalsely : Prop := fnExactEccFixRow.holds Try.pinned (OpenSpec.ofChange fnExactEccFixWrong)

/- THE SECOND FORM. 'bulk': how many values and letters a reading holds, each counted each time it is reached (what is shared counts as often as it is met; a slice's spare places count too). A statement '..UptoSaid' is the law's where the arguments, and the package variables that the reading takes, are together of bulk at most 1048576: NARROWER than '..Said'. Prove '..Said' where nothing that the law and all that it calls make is longer than what came in: it says more and counts as full. Else prove '..UptoSaid'. A law counts once. -/
mutual
def uptoBulk {H : Type} : DataW H → Nat
  | .lit (.string bytes) => bytes.length + 1
  | .lit _ => 1
  | .nil => 1
  | .ptr d => uptoBulk d + 1
  | .slice elems spare => uptoBulkAll elems + uptoBulkAll spare + 1
  | .agg parts => uptoBulkAll parts + 1
  | .iface _ d => uptoBulk d + 1
  | .map entries => uptoBulkEntries entries + 1
  | .held _ => 1
def uptoBulkAll {H : Type} : List (DataW H) → Nat
  | [] => 0
  | d :: r => uptoBulk d + uptoBulkAll r
def uptoBulkEntries {H : Type} : List (Lit × DataW H) → Nat
  | [] => 0
  | x :: r => uptoBulkEntry x + uptoBulkEntries r
def uptoBulkEntry {H : Type} : Lit × DataW H → Nat
  | (.string bytes, d) => bytes.length + uptoBulk d + 1
  | (_, d) => uptoBulk d + 1
 end
def uptoSmall : (H : Type) → List (DataW H) → Bool := fun _ ds => decide (uptoBulkAll ds ≤ 1048576)
def OpenSpec.upto (s : _root_.Go.ChangeSpec) : _root_.Go.OpenSpec := { _root_.Go.OpenSpec.ofChange s with cond := some uptoSmall }

/-- 'laws.FnHist', WHERE WHAT IT READS IS OF BULK AT MOST 1048576: true; the input reads as it did. -/
def fnHistUptoRow : OpenClaim := { program := "ytgkkkldajangeaa", sum := "0b89907554e9eb72bfb8ca220d68b69c3408a0b32e35cba9b6a132822dfdb444", func := "loop.example/g00637/laws.FnHist", spec := "fnHist", inPlace := ["slices.overlaps[int64]"], unfollowed := true, recurses := true, apart := false, narrowed := true }
def FnHistUptoSaid : Prop := fnHistUptoRow.holds Try.pinned (OpenSpec.upto fnHistSpec)

/-- 'laws.FnPrune', WHERE WHAT IT READS IS OF BULK AT MOST 1048576: true; the input reads as it did. -/
def fnPruneUptoRow : OpenClaim := { program := "ytgkkkldajangeaa", sum := "0b89907554e9eb72bfb8ca220d68b69c3408a0b32e35cba9b6a132822dfdb444", func := "loop.example/g00637/laws.FnPrune", spec := "fnPrune", inPlace := ["slices.overlaps[int64]"], unfollowed := true, recurses := true, apart := false, narrowed := true }
def FnPruneUptoSaid : Prop := fnPruneUptoRow.holds Try.pinned (OpenSpec.upto fnPruneSpec)

/-- 'laws.FnEcc', WHERE WHAT IT READS IS OF BULK AT MOST 1048576: true; the input reads as it did. -/
def fnEccUptoRow : OpenClaim := { program := "ytgkkkldajangeaa", sum := "0b89907554e9eb72bfb8ca220d68b69c3408a0b32e35cba9b6a132822dfdb444", func := "loop.example/g00637/laws.FnEcc", spec := "fnEcc", apart := false, narrowed := true }
def FnEccUptoSaid : Prop := fnEccUptoRow.holds Try.pinned (OpenSpec.upto fnEccSpec)

/-- 'laws.FnExactEccOf', WHERE WHAT IT READS IS OF BULK AT MOST 1048576: true; the input reads as it did. -/
def fnExactEccOfUptoRow : OpenClaim := { program := "ytgkkkldajangeaa", sum := "0b89907554e9eb72bfb8ca220d68b69c3408a0b32e35cba9b6a132822dfdb444", func := "loop.example/g00637/laws.FnExactEccOf", spec := "fnExactEccOf", apart := false, narrowed := true }
def FnExactEccOfUptoSaid : Prop := fnExactEccOfUptoRow.holds Try.pinned (OpenSpec.upto fnExactEccOfSpec)

/-- 'laws.FnExactEccFix', WHERE WHAT IT READS IS OF BULK AT MOST 1048576: true; the input reads as it did. -/
def fnExactEccFixUptoRow : OpenClaim := { program := "ytgkkkldajangeaa", sum := "0b89907554e9eb72bfb8ca220d68b69c3408a0b32e35cba9b6a132822dfdb444", func := "loop.example/g00637/laws.FnExactEccFix", spec := "fnExactEccFix", apart := false, narrowed := true }
def FnExactEccFixUptoSaid : Prop := fnExactEccFixUptoRow.holds Try.pinned (OpenSpec.upto fnExactEccFixSpec)

end Rows
end Go.Proofs.Ytgkkkldajangeaa
