/-
  DERIVED. GIVEN WITH THE SEED: THE CARDS: each row of YtpgemeojhbeooaaDoorRows.lean that lists a variable, with what it lists TIED to the program's text (the seventh form; the later family's looks); each row that meets fmt, with fmt's text TOLD by the authors' own Lean function (tested against real Go, not proved from fmt's source: count such statements apart). THE CARD IS WHAT COUNTS. Prove the row's statement (the work); the ties are given (YtpgemeojhbeooaaDoorTie.lean); close each card by the builder's one call (the guide's Derived/Test/ToyasCard.lean, 'card_holds'). Laid BY PROGRAM, IN A SANDBOX (cutbox-door.mjs). By AI agents, Wed Nov 11 2026. No macro, syntax, notation, axiom, sorry.
-/
import Derived.Test.YtpgemeojhbeooaaDoorRows
import GoSem.ClaimSeven
namespace Go.Proofs.YtpgemeojhbeooaaDoor
namespace Rows

/-- THE TIED CARD OF 'laws.FnDelta'. -/
def fnDeltaCard : Claim7 := { stood := { row := fnDeltaRow, standIns := [], harness := (true, "cf353ee1340f838862fc055fc2c9130aae98fd4e0cab79ff1273ce07b1531461"), looks := true }, kinds := [], alts := [], laidByText := true, laidKinds := [.handle], laidTests := true, laidLooks := .later }
def FnDeltaCardSaid : Prop := Claim7.holds Tryd.pinned (.plain (OpenSpec.ofChange fnDeltaSpec)) fnDeltaCard

/-- THE TIED CARD OF 'laws.FnExactDeltaRead'. -/
def fnExactDeltaReadCard : Claim7 := { stood := { row := fnExactDeltaReadRow, standIns := [], harness := (true, "cf353ee1340f838862fc055fc2c9130aae98fd4e0cab79ff1273ce07b1531461"), looks := true }, kinds := [], alts := [], laidByText := true, laidKinds := [.handle], laidTests := true, laidLooks := .later }
def FnExactDeltaReadCardSaid : Prop := Claim7.holds Tryd.pinned (.plain (OpenSpec.ofChange fnExactDeltaReadSpec)) fnExactDeltaReadCard

/-- THE SECOND FORM's CARD OF 'laws.FnDelta'. -/
def fnDeltaUptoCard : Claim7 := { stood := { row := fnDeltaUptoRow, standIns := [], harness := (true, "cf353ee1340f838862fc055fc2c9130aae98fd4e0cab79ff1273ce07b1531461"), looks := true }, kinds := [], alts := [], laidByText := true, laidKinds := [.handle], laidTests := true, laidLooks := .later }
def FnDeltaUptoCardSaid : Prop := Claim7.holds Tryd.pinned (.plain (OpenSpec.upto fnDeltaSpec)) fnDeltaUptoCard

/-- THE SECOND FORM's CARD OF 'laws.FnExactDeltaRead'. -/
def fnExactDeltaReadUptoCard : Claim7 := { stood := { row := fnExactDeltaReadUptoRow, standIns := [], harness := (true, "cf353ee1340f838862fc055fc2c9130aae98fd4e0cab79ff1273ce07b1531461"), looks := true }, kinds := [], alts := [], laidByText := true, laidKinds := [.handle], laidTests := true, laidLooks := .later }
def FnExactDeltaReadUptoCardSaid : Prop := Claim7.holds Tryd.pinned (.plain (OpenSpec.upto fnExactDeltaReadSpec)) fnExactDeltaReadUptoCard
end Rows
end Go.Proofs.YtpgemeojhbeooaaDoor
